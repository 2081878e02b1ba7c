/- Both ReadDisks. -/
import Derived.Test.YtgchkpahoilmdaaRs
import Derived.Test.YtgchkpahoilmdaaSpa
namespace Go.Proofs.Ytgchkpahoilmdaa
open Go.RowKit Go.Deep
set_option linter.unusedVariables false
set_option maxRecDepth 20000

theorem PRes.open {c idn lsn : Int} {n : Nat} {K V : Nat → Int} {w w' : World} {e : Ending} (h : PRes c idn lsn n K V w e w') :
    ∃ a cap I L N, e = .returned (.agg #[.int .i64 c, .int .i64 I, .int .i64 L, .slice a N cap]) ∧ Hid (I = (if c = 0 then idn else 0) ∧ L = (if c = 0 then lsn else 0) ∧ N = (if c = 0 then n else 0)) ∧ Below w.heap.size w w' ∧ Own w' w.heap.size w'.heap.size a N K V := by
  obtain ⟨a, cap, rfl, hb, ho⟩ := h
  exact ⟨a, cap, _, _, _, rfl, ⟨rfl, rfl, rfl⟩, hb, ho⟩
theorem pres_lift {c idn lsn I L : Int} {n N : Nat} {K V : Nat → Int} {w w2 w3 w7 : World} {a : Option Addr} {cap : Nat} (HE : Hid (I = (if c = 0 then idn else 0) ∧ L = (if c = 0 then lsn else 0) ∧ N = (if c = 0 then n else 0)))
    (hB : Below w.heap.size w w2) (hz : w.heap.size + 2 ≤ w2.heap.size) (hb : Below w2.heap.size w2 w3) (ho : Own w3 w2.heap.size w3.heap.size a N K V) (hw : Writes (w.heap.size + 1) (w.heap.size + 2) w3 w7) (hs : w7.heap.size = w3.heap.size) :
    PRes c idn lsn n K V w (.returned (.agg #[.int .i64 c, .int .i64 I, .int .i64 L, .slice a N cap])) w7 := by
  obtain ⟨rfl, rfl, rfl⟩ := HE.out
  refine ⟨a, cap, rfl, Writes.below (below_then hB hb) hw (by omega), ?_⟩
  rw [hs]
  have h0 := hb.size
  exact (ho.writes hw (.inr (by omega))).wide (by omega) (Nat.le_refl _) (by omega)
/-- The code of ReadDisk. -/
def rdC (D : Dk) (idn : Int) : Int := if df D = 0 then (if inB idn 0 ((D.n : Int) - 1) = true then rsC (stl D idF D.m idn.toNat) idn else 3) else df D
/-- What both ReadDisks answer. -/
def RdR (D : Dk) (idn : Int) (w : World) (e : Ending) (w' : World) : Prop :=
  PRes (rdC D idn) (num (stl D idF D.m idn.toNat) 0 1) (num (stl D idF D.m idn.toNat) 1 4) (rpN (stl D idF D.m idn.toNat)) (rpK (stl D idF D.m idn.toNat)) (rpV (stl D idF D.m idn.toNat)) w e w'
set_option maxHeartbeats 4000000 in
theorem specRd_any (D : Dk) (idn : Int) (a a' : Option Addr) (cap cap' : Nat) (w : World) (hs : Small D) (hby : DiskByt D) (h : DiskAt w a a' D) :
    Calls Try.prog 22 #[.agg #[.slice a D.n cap, .slice a' D.m cap'], .int .i64 idn] w (RdR D idn w) := by
  have hb0 : ∀ o1 o2, Below w.heap.size w ((w.alloc o1).alloc o2) := fun o1 o2 => ((Below.refl _ _).alloc (Nat.le_refl _) _).alloc (by simp) _
  have HS : Hid (Small D) := hs
  have HA : Hid (DiskAt w a a' D) := h
  have HY : Hid (DiskByt D) := hby
  clear hs h hby
  by_cases hf : df D = 0
  · have HG : Hid (GoodD D) := goodD_of hf
    have hn8 := HG.out.n8
    have HC : Hid (rdC D idn = (if inB idn 0 ((D.n : Int) - 1) = true then rsC (stl D idF D.m idn.toNat) idn else 3)) := by show rdC D idn = _; rw [rdC, if_pos hf]
    go_enter Try.func22, Try.ntmps22
    go_wp2_with fail
    refine (specDf_any D a a' cap cap' _ HS.out (HA.out.below (hb0 _ _))).mono ?_
    rintro e w1 ⟨rfl, hb1⟩
    rw [hf]
    obtain ⟨hcc, hff⟩ := bcell hb1
    have hz : w.heap.size + 2 ≤ w1.heap.size := by have := hb1.size; simp at this; omega
    have q0 : w1.cell? ⟨w.heap.size, 0, none⟩ = some (.slice a D.n cap) := by rw [hcc _ _ (by simp <;> omega)]; simp [go_sem]
    have q1 : w1.cell? ⟨w.heap.size, 1, none⟩ = some (.slice a' D.m cap') := by rw [hcc _ _ (by simp <;> omega)]; simp [go_sem]
    have r0 : w1.cell? ⟨w.heap.size + 1, 0, none⟩ = some (.int .i64 0) := by rw [hcc _ _ (by simp <;> omega)]; simp [go_sem]
    have r1 : w1.cell? ⟨w.heap.size + 1, 1, none⟩ = some (.int .i64 0) := by rw [hcc _ _ (by simp <;> omega)]; simp [go_sem]
    have r2 : w1.cell? ⟨w.heap.size + 1, 2, none⟩ = some (.int .i64 0) := by rw [hcc _ _ (by simp <;> omega)]; simp [go_sem]
    have r3 : w1.cell? ⟨w.heap.size + 1, 3, none⟩ = some (.slice none 0 0) := by rw [hcc _ _ (by simp <;> omega)]; simp [go_sem]
    have fz : ∀ i, w1.frozen? ⟨w.heap.size + 1, i, none⟩ = false := fun i => by rw [hff _ _ (by simp <;> omega)]; simp [go_sem]
    have HB1 : Hid (Below w.heap.size w w1) := below_then (hb0 _ _) hb1
    clear hcc hff hb1 hb0 hf
    go_wp2_with fail
    refine (l2Page_any w.heap.size idn D.n a cap _ (by omega) q0).mono ?_
    rintro e w9 ⟨rfl, rfl⟩
    by_cases hin : inB idn 0 ((D.n : Int) - 1) = true
    · have HC2 : Hid (rdC D idn = rsC (stl D idF D.m idn.toNat) idn) := by show _ = _; rw [HC.out, if_pos hin]
      obtain ⟨h1, h2⟩ := inB_iff.1 hin
      obtain ⟨id, rfl⟩ : ∃ id : Nat, idn = id := ⟨idn.toNat, by omega⟩
      have hid : id < D.n := by omega
      rw [hin]
      clear HC hin h1 h2
      go_wp2_with fail
      refine (l2Read_any D id a a' cap cap' _ HG.out HY.out hid (HA.out.below HB1.out)).mono ?_
      rintro e w2 hP
      obtain ⟨a2, cp2, I, L, N, rfl, HE, hb2, ho2⟩ := hP.open
      have s0 := cell_below r0 hb2
      have s1 := cell_below r1 hb2
      have s2 := cell_below r2 hb2
      have s3 := cell_below r3 hb2
      have sf : ∀ i, w2.frozen? ⟨w.heap.size + 1, i, none⟩ = false := fun i => (hb2.frozen (p := ⟨w.heap.size + 1, i, none⟩) (by show w.heap.size + 1 < _; omega)).trans (fz i)
      have HP2 : Hid (Below w9.heap.size w9 w2) := hb2
      have HO2 : Hid (Own w2 w9.heap.size w2.heap.size a2 N (rpK (stl D idF D.m id)) (rpV (stl D idF D.m id))) := ho2
      rw [Int.toNat_natCast] at HC2
      generalize hcq : rsC (stl D idF D.m id) id = cq at *
      clear hP hb2 ho2 hcq r0 r1 r2 r3 fz q0 q1
      go_wp2_with fail
      refine bodyPost_ret (v := .agg #[.int .i64 cq, .int .i64 I, .int .i64 L, .slice a2 N cp2]) (by simp [results, Try.results22, go_sem, *]) rfl ?_
      unfold RdR
      rw [HC2.out, Int.toNat_natCast]
      refine pres_lift HE HB1.out hz HP2.out HO2.out ?_ (by simp [World.setCell])
      repeat (first | exact Writes.refl _ _ _ | refine Writes.setCell ?_ (by first | omega | (simp <;> omega)) (by first | omega | (simp <;> omega)) _)
    · have hinf : inB idn 0 ((D.n : Int) - 1) = false := by simpa using hin
      have HC2 : Hid (rdC D idn = 3) := by show _ = _; rw [HC.out, if_neg hin]
      rw [hinf]
      clear HC hin hinf
      go_wp2_with fail
      refine bodyPost_ret (v := .agg #[.int .i64 3, .int .i64 0, .int .i64 0, .slice none 0 0]) (by simp [results, Try.results22, go_sem, *]) rfl ?_
      unfold RdR
      rw [HC2.out]
      refine pres_bad ?_ (by decide)
      repeat (first | exact HB1.out | refine Below.setCell ?_ (by first | omega | (simp <;> omega)) _)
  · have hd : (df D != 0) = true := by simpa using hf
    have HNZ : Hid (df D ≠ 0) := hf
    have HC : Hid (rdC D idn = df D) := by show rdC D idn = _; rw [rdC, if_neg hf]
    go_enter Try.func22, Try.ntmps22
    go_wp2_with fail
    refine (specDf_any D a a' cap cap' _ HS.out (HA.out.below (hb0 _ _))).mono ?_
    rintro e w1 ⟨rfl, hb1⟩
    obtain ⟨hcc, hff⟩ := bcell hb1
    generalize df D = c at *
    clear hf
    go_wp2_with fail
    refine bodyPost_ret (v := .agg #[.int .i64 c, .int .i64 0, .int .i64 0, .slice none 0 0]) (by simp [results, Try.results22, go_sem, hcc]) rfl ?_
    unfold RdR
    rw [HC.out]
    refine pres_bad ?_ HNZ.out
    repeat (first | exact below_then (hb0 _ _) hb1 | refine Below.setCell ?_ (by first | omega | (simp <;> omega)) _)
theorem drewB5 {w1 w2 : World} (hb : Below w1.drew.heap.size w1.drew w2) : Below w1.heap.size w1 w2 := ((Below.refl _ _).drew).trans hb
theorem cells6 {w1 w2 : World} {B : Nat} {x0 x1 y0 y1 y2 y3 : Value} (hb : Below w1.heap.size w1 w2) (h0 : w1.cell? ⟨B, 0, none⟩ = some x0) (h1 : w1.cell? ⟨B, 1, none⟩ = some x1)
    (k0 : w1.cell? ⟨B + 1, 0, none⟩ = some y0) (k1 : w1.cell? ⟨B + 1, 1, none⟩ = some y1) (k2 : w1.cell? ⟨B + 1, 2, none⟩ = some y2) (k3 : w1.cell? ⟨B + 1, 3, none⟩ = some y3) (hf : ∀ i, w1.frozen? ⟨B + 1, i, none⟩ = false) :
    w2.cell? ⟨B, 0, none⟩ = some x0 ∧ w2.cell? ⟨B, 1, none⟩ = some x1 ∧ w2.cell? ⟨B + 1, 0, none⟩ = some y0 ∧ w2.cell? ⟨B + 1, 1, none⟩ = some y1 ∧ w2.cell? ⟨B + 1, 2, none⟩ = some y2 ∧ w2.cell? ⟨B + 1, 3, none⟩ = some y3 ∧ ∀ i, w2.frozen? ⟨B + 1, i, none⟩ = false :=
  ⟨cell_below h0 hb, cell_below h1 hb, cell_below k0 hb, cell_below k1 hb, cell_below k2 hb, cell_below k3 hb, fun i => (hb.frozen (p := ⟨B + 1, i, none⟩) (by have := Go.block_lt_of_cell k0; exact this)).trans (hf i)⟩
set_option maxHeartbeats 4000000 in
theorem implRd_any (D : Dk) (idn : Int) (a a' : Option Addr) (cap cap' : Nat) (w : World) (hs : Small D) (hby : DiskByt D) (h : DiskAt w a a' D) :
    Calls Try.prog 24 #[.agg #[.slice a D.n cap, .slice a' D.m cap'], .int .i64 idn] w (RdR D idn w) := by
  have hb0 : ∀ o1 o2, Below w.heap.size w ((w.alloc o1).alloc o2) := fun o1 o2 => ((Below.refl _ _).alloc (Nat.le_refl _) _).alloc (by simp) _
  have HS : Hid (Small D) := hs
  have HA : Hid (DiskAt w a a' D) := h
  have HY : Hid (DiskByt D) := hby
  clear hs h hby
  by_cases hf : df D = 0
  · have HG : Hid (GoodD D) := goodD_of hf
    have hn8 := HG.out.n8
    have hm60 := HG.out.m
    have HFI : Hid (∀ i, i < D.m → 0 ≤ idF i ∧ idF i < D.m) := fun i hi => ⟨by unfold idF; omega, by unfold idF; omega⟩
    have HC : Hid (rdC D idn = (if inB idn 0 ((D.n : Int) - 1) = true then rsC (stl D idF D.m idn.toNat) idn else 3)) := by show rdC D idn = _; rw [rdC, if_pos hf]
    go_enter Try.func24, Try.ntmps24
    go_wp2_with fail
    refine (implDf_any D a a' cap cap' _ HS.out (HA.out.below (hb0 _ _))).mono ?_
    rintro e w1 ⟨rfl, hb1⟩
    rw [hf]
    obtain ⟨hcc, hff⟩ := bcell hb1
    have hz : w.heap.size + 2 ≤ w1.heap.size := by have := hb1.size; simp at this; omega
    have q0 : w1.cell? ⟨w.heap.size, 0, none⟩ = some (.slice a D.n cap) := by rw [hcc _ _ (by simp <;> omega)]; simp [go_sem]
    have q1 : w1.cell? ⟨w.heap.size, 1, none⟩ = some (.slice a' D.m cap') := by rw [hcc _ _ (by simp <;> omega)]; simp [go_sem]
    have r0 : w1.cell? ⟨w.heap.size + 1, 0, none⟩ = some (.int .i64 0) := by rw [hcc _ _ (by simp <;> omega)]; simp [go_sem]
    have r1 : w1.cell? ⟨w.heap.size + 1, 1, none⟩ = some (.int .i64 0) := by rw [hcc _ _ (by simp <;> omega)]; simp [go_sem]
    have r2 : w1.cell? ⟨w.heap.size + 1, 2, none⟩ = some (.int .i64 0) := by rw [hcc _ _ (by simp <;> omega)]; simp [go_sem]
    have r3 : w1.cell? ⟨w.heap.size + 1, 3, none⟩ = some (.slice none 0 0) := by rw [hcc _ _ (by simp <;> omega)]; simp [go_sem]
    have fz : ∀ i, w1.frozen? ⟨w.heap.size + 1, i, none⟩ = false := fun i => by rw [hff _ _ (by simp <;> omega)]; simp [go_sem]
    have HB1 : Hid (Below w.heap.size w w1) := below_then (hb0 _ _) hb1
    clear hcc hff hb1 hb0 hf
    go_wp2_with fail
    refine (isPlace_any idn D.n _ (by omega)).mono ?_
    rintro e w9 ⟨rfl, rfl⟩
    by_cases hin : inB idn 0 ((D.n : Int) - 1) = true
    · have HC2 : Hid (rdC D idn = rsC (stl D idF D.m idn.toNat) idn) := by show _ = _; rw [HC.out, if_pos hin]
      obtain ⟨h1, h2⟩ := inB_iff.1 hin
      obtain ⟨id, rfl⟩ : ∃ id : Nat, idn = id := ⟨idn.toNat, by omega⟩
      have hid : id < D.n := by omega
      rw [hin]
      rw [Int.toNat_natCast] at HC2
      have HZI : Hid (Byt 48 (stl D idF D.m id)) := stl_idByt HG.out HY.out hid
      clear HC hin h1 h2
      go_wp2_with fail
      go_region_law (first | (go_simp; go_at_call 63; refine (loosePlaces_any D.n D.m a a' cap cap' w9.drew hm60).mono ?_; rintro e w2 ⟨vp, cvp, rfl, hb2, hin2⟩; have hbq2 := drewB5 hb2; obtain ⟨s0, s1, s2, s3, s4, s5, sf⟩ := cells6 hbq2 q0 q1 r0 r1 r2 r3 fz) | (go_simp; go_at_call 62; refine (settle_any D D.m idF a a' vp cap cap' cvp w2 HG.out (by omega) HFI.out (HA.out.below (below_then HB1.out hbq2)) hin2).mono ?_; rintro e w3 ⟨ap, cp, rfl, hb3, hop⟩; obtain ⟨t0, t1, t2, t3, t4, t5, tf⟩ := cells6 hb3 s0 s1 s2 s3 s4 s5 sf) | (go_simp; go_at_call 61; refine (readSettled_any D.n id (stl D idF D.m) ap cp _ _ w3 hid HZI.out hop).mono ?_; rintro e w4 hP; obtain ⟨a4, cp4, I, L, N, rfl, HE, hb4, ho4⟩ := PRes.open hP; obtain ⟨u0, u1, u2, u3, u4, u5, uf⟩ := cells6 hb4 t0 t1 t2 t3 t4 t5 tf))
      all_goals
        have HB3 : Hid (Below w.heap.size w w3) := below_then HB1.out (below_then hbq2 hb3)
        have hz3 : w.heap.size + 2 ≤ w3.heap.size := by have := hbq2.size; have := hb3.size; omega
        have HP4 : Hid (Below w3.heap.size w3 w4) := hb4
        have HO4 : Hid (Own w4 w3.heap.size w4.heap.size a4 N (rpK (stl D idF D.m id)) (rpV (stl D idF D.m id))) := ho4
        generalize hcq : rsC (stl D idF D.m id) id = cq at *
        clear hP hcq hb2 hin2 hbq2 hb3 hop hb4 ho4 s0 s1 s2 s3 s4 s5 sf t0 t1 t2 t3 t4 t5 tf q0 q1 r0 r1 r2 r3 fz
        go_wp2_with fail
        refine bodyPost_ret (v := .agg #[.int .i64 cq, .int .i64 I, .int .i64 L, .slice a4 N cp4]) (by simp [results, Try.results24, go_sem, *]) rfl ?_
        unfold RdR
        rw [HC2.out, Int.toNat_natCast]
        refine pres_lift HE HB3.out hz3 HP4.out HO4.out ?_ (by simp [World.setCell])
        repeat (first | exact Writes.refl _ _ _ | refine Writes.setCell ?_ (by first | omega | (simp <;> omega)) (by first | omega | (simp <;> omega)) _)
    · have hinf : inB idn 0 ((D.n : Int) - 1) = false := by simpa using hin
      have HC2 : Hid (rdC D idn = 3) := by show _ = _; rw [HC.out, if_neg hin]
      rw [hinf]
      clear HC hin hinf
      go_wp2_with fail
      refine bodyPost_ret (v := .agg #[.int .i64 3, .int .i64 0, .int .i64 0, .slice none 0 0]) (by simp [results, Try.results24, go_sem, *]) rfl ?_
      unfold RdR
      rw [HC2.out]
      refine pres_bad ?_ (by decide)
      repeat (first | exact HB1.out | refine Below.setCell ?_ (by first | omega | (simp <;> omega)) _)
  · have hd : (df D != 0) = true := by simpa using hf
    have HNZ : Hid (df D ≠ 0) := hf
    have HC : Hid (rdC D idn = df D) := by show rdC D idn = _; rw [rdC, if_neg hf]
    go_enter Try.func24, Try.ntmps24
    go_wp2_with fail
    refine (implDf_any D a a' cap cap' _ HS.out (HA.out.below (hb0 _ _))).mono ?_
    rintro e w1 ⟨rfl, hb1⟩
    obtain ⟨hcc, hff⟩ := bcell hb1
    generalize df D = c at *
    clear hf
    go_wp2_with fail
    refine bodyPost_ret (v := .agg #[.int .i64 c, .int .i64 0, .int .i64 0, .slice none 0 0]) (by simp [results, Try.results24, go_sem, hcc]) rfl ?_
    unfold RdR
    rw [HC.out]
    refine pres_bad ?_ HNZ.out
    repeat (first | exact below_then (hb0 _ _) hb1 | refine Below.setCell ?_ (by first | omega | (simp <;> omega)) _)
end Go.Proofs.Ytgchkpahoilmdaa
