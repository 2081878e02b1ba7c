/- spec.PlaceDisk. -/
import Derived.Test.YtmopoblladnjbaaLp
namespace Go.Proofs.Ytmopoblladnjbaa
open Go.RowKit Go.Deep
set_option linter.unusedVariables false
set_option maxRecDepth 20000

theorem l2Page_any (b : Nat) (idn : Int) (n : Nat) (a : Option Addr) (cap : Nat) (w : World) (hn : n ≤ 1048576) (h : w.cell? ⟨b, 0, none⟩ = some (.slice a n cap)) :
    Calls Try.prog 141 #[.pointer (some ⟨b, 0, none⟩), .int .i64 idn] w fun e w' => e = .returned (.bool (inB idn 0 ((n : Int) - 1))) ∧ w' = w := by
  go_enter Try.func141, Try.ntmps141
  go_wp2_with fail
  refine (l1In_any idn 0 ((n : Int) - 1) _).mono ?_
  rintro e w' ⟨rfl, hw'⟩
  rw [hw']
  clear hw' w'
  go_wp2_with fail
  go_ret
  exact ⟨rfl, rfl⟩
theorem l2Place_many (n m : Nat) (idn : Int) (a a' : Option Addr) (cap cap' : Nat) (v3 : Value) (w : World) (hm : 57 < m) (hm2 : m ≤ 1048576) :
    Calls Try.prog 184 #[.agg #[.slice a n cap, .slice a' m cap'], .int .i64 idn, v3] w fun e w' => e = .returned (.tuple #[.agg #[.slice a n cap, .slice a' m cap'], .int .i64 2]) ∧ Below w.heap.size w w' := by
  have hm60 : (60 < (m : Int) + 3) := by omega
  go_enter Try.func184, Try.ntmps184
  go_wp2_with fail
  refine bodyPost_ret (v := .tuple #[.agg #[.slice a n cap, .slice a' m cap'], .int .i64 2]) (by simp [results, Try.results184, go_sem]) rfl ⟨rfl, ?_⟩
  exact ((Below.refl _ _).alloc (Nat.le_refl _) _).alloc (by simp) _
/-- A disk all of whose blocks lie from lo on, below hi. -/
def OwnR (w : World) (lo hi : Nat) (a a' : Option Addr) (D : Dk) : Prop := OwnP w lo hi a D.n D.L D.Z ∧ OwnL w lo hi a' D.m D.P D.T D.M D.Y
theorem OwnR.at {w : World} {lo hi : Nat} {a a' : Option Addr} {D : Dk} (h : OwnR w lo hi a a' D) : DiskAt w a a' D := ⟨h.1.at, h.2.at⟩
theorem OwnR.writes {w w' : World} {lo hi lo' hi' : Nat} {a a' : Option Addr} {D : Dk} (h : OwnR w lo hi a a' D) (hw : Writes lo' hi' w w') (hd : hi ≤ lo' ∨ hi' ≤ lo) : OwnR w' lo hi a a' D := ⟨h.1.writes hw hd, h.2.writes hw hd⟩
theorem OwnR.below {w w' : World} {lo hi : Nat} {a a' : Option Addr} {D : Dk} (h : OwnR w lo hi a a' D) (hb : Below w.heap.size w w') : OwnR w' lo hi a a' D := ⟨h.1.below hb, h.2.below hb⟩
theorem OwnR.wide {w : World} {lo hi lo' hi' : Nat} {a a' : Option Addr} {D : Dk} (h : OwnR w lo hi a a' D) (e1 : lo' ≤ lo) (e2 : hi ≤ hi') (e3 : hi' ≤ w.heap.size) : OwnR w lo' hi' a a' D := ⟨h.1.wide e1 e2 e3, h.2.wide e1 e2 e3⟩
/-- An answer that is a disk, for reading alone. -/
def SRes (c : Int) (X : Dk) (w : World) (e : Ending) (w' : World) : Prop :=
  ∃ a a' cap cap', e = .returned (.agg #[.int .i64 c, .slice a (rD c X).n cap, .slice a' (rD c X).m cap']) ∧ Below w.heap.size w w' ∧ OwnR w' w.heap.size w'.heap.size a a' (rD c X)
theorem sres_bad {c : Int} {X : Dk} {w w' : World} (hb : Below w.heap.size w w') (hc : c ≠ 0) : SRes c X w (.returned (.agg #[.int .i64 c, .slice none 0 0, .slice none 0 0])) w' := by
  unfold SRes rD
  rw [if_neg hc]
  exact ⟨none, none, 0, 0, rfl, hb, ⟨Nat.le_refl _, .inl rfl⟩, ⟨Nat.le_refl _, .inl rfl⟩⟩
set_option maxHeartbeats 1600000 in
theorem specPlace_any (D : Dk) (idn : Int) (k : Nat) (z : Nat → Int) (a a' a3 : Option Addr) (cap cap' cap3 : Nat) (w : World) (hs : Small D) (hk : k ≤ 1048576) (hcap : k ≤ cap3) (h : DiskAt w a a' D) (h3 : BytesAt w a3 k z) :
    Calls Try.prog 132 #[.agg #[.slice a D.n cap, .slice a' D.m cap'], .int .i64 idn, .slice a3 k cap3] w (SRes (plC D idn k) (plD D idn z) w) := by
  have hb0 : ∀ o1 o2, Below w.heap.size w ((w.alloc o1).alloc o2) := fun o1 o2 => ((Below.refl _ _).alloc (Nat.le_refl _) _).alloc (by simp) _
  have HS : Hid (Small D) := hs
  have HA : Hid (DiskAt w a a' D) := h
  have HY : Hid (BytesAt w a3 k z) := h3
  have hn := hs.n
  have hm := hs.m
  clear hs h h3
  by_cases hf : df D = 0
  · have HG : Hid (GoodD D) := goodD_of hf
    have hpl : plC D idn k = (if inB idn 0 ((D.n : Int) - 1) = true then (if k = 48 then (if 57 < D.m then 2 else 0) else 1) else 3) := by unfold plC; rw [if_pos hf]
    generalize hc : plC D idn k = c at *
    have HC : Hid (c = (if inB idn 0 ((D.n : Int) - 1) = true then (if k = 48 then (if 57 < D.m then 2 else 0) else 1) else 3)) := hpl
    clear hpl hc
    go_enter Try.func132, Try.ntmps132
    go_wp2_with fail
    refine (specDf_any D a a' cap cap' _ HS.out (HA.out.below (hb0 _ _))).mono ?_
    rintro e w1 ⟨rfl, hb1⟩
    rw [hf]
    obtain ⟨hcc, hff⟩ := bcell hb1
    have hz : w.heap.size + 1 < w1.heap.size := by have := hb1.size; simp at this; omega
    have q0 : w1.cell? ⟨w.heap.size, 0, none⟩ = some (.slice a D.n cap) := by rw [hcc _ _ (by simp <;> omega)]; simp [go_sem]
    have q1 : w1.cell? ⟨w.heap.size, 1, none⟩ = some (.slice a' D.m cap') := by rw [hcc _ _ (by simp <;> omega)]; simp [go_sem]
    have r0 : w1.cell? ⟨w.heap.size + 1, 0, none⟩ = some (.int .i64 0) := by rw [hcc _ _ (by simp <;> omega)]; simp [go_sem]
    have r1 : w1.cell? ⟨w.heap.size + 1, 1, none⟩ = some (.slice none 0 0) := by rw [hcc _ _ (by simp <;> omega)]; simp [go_sem]
    have r2 : w1.cell? ⟨w.heap.size + 1, 2, none⟩ = some (.slice none 0 0) := by rw [hcc _ _ (by simp <;> omega)]; simp [go_sem]
    have fz : ∀ i, w1.frozen? ⟨w.heap.size + 1, i, none⟩ = false := fun i => by rw [hff _ _ (by simp <;> omega)]; simp [go_sem]
    have HB1 : Hid (Below w.heap.size w w1) := below_then (hb0 _ _) hb1
    clear hcc hff hb1 hb0
    by_cases hin : inB idn 0 ((D.n : Int) - 1) = true
    · by_cases h48 : k = 48
      · subst h48
        by_cases h57 : 57 < D.m
        · have HC2 : Hid (c = 2) := by have h := HC.out; rw [if_pos hin, if_pos rfl, if_pos h57] at h; exact h
          clear HC
          go_wp2_with fail
          refine (l2Page_any _ idn D.n a cap _ (by omega) q0).mono ?_
          rintro e w' ⟨rfl, hw'⟩
          rw [hw']
          clear hw' w'
          go_wp2_with fail
          refine (l2Place_many D.n D.m idn a a' cap cap' _ w1 h57 hm).mono ?_
          rintro e w2 ⟨rfl, hb2⟩
          have t0 : w2.cell? ⟨w.heap.size + 1, 0, none⟩ = some (.int .i64 0) := cell_below r0 hb2
          have t1 : w2.cell? ⟨w.heap.size + 1, 1, none⟩ = some (.slice none 0 0) := cell_below r1 hb2
          have t2 : w2.cell? ⟨w.heap.size + 1, 2, none⟩ = some (.slice none 0 0) := cell_below r2 hb2
          have tf : ∀ i, w2.frozen? ⟨w.heap.size + 1, i, none⟩ = false := fun i => (hb2.frozen (p := ⟨w.heap.size + 1, i, none⟩) (by show w.heap.size + 1 < _; omega)).trans (fz i)
          have m0 := fun o : Obj => cell_alloc t0 o
          have m1 := fun o : Obj => cell_alloc t1 o
          have m2 := fun o : Obj => cell_alloc t2 o
          have HB2 : Hid (Below w.heap.size w w2) := below_then HB1.out hb2
          have hz2 : w.heap.size + 1 < w2.heap.size := by have := hb2.size; omega
          have mf : ∀ (o : Obj) i, (w2.alloc o).frozen? ⟨w.heap.size + 1, i, none⟩ = false := fun o i => by rw [World.frozen?_alloc_past _ _ _ (by show w.heap.size + 1 < _; omega)]; exact tf i
          clear hb2
          go_wp2_with fail
          rw [HC2.out]
          refine bodyPost_ret (v := .agg #[.int .i64 2, .slice none 0 0, .slice none 0 0]) (by simp [results, Try.results132, go_sem, *]) rfl ?_
          refine sres_bad ?_ (by decide)
          repeat (first | exact HB2.out | refine Below.setCell ?_ (by first | omega | (simp <;> omega)) _ | refine Below.alloc ?_ (by simp [World.setCell]; omega) _)
        · have HC2 : Hid (c = 0) := by have h := HC.out; rw [if_pos hin, if_pos rfl, if_neg h57] at h; exact h
          clear HC
          go_wp2_with fail
          refine (l2Page_any _ idn D.n a cap _ (by omega) q0).mono ?_
          rintro e w' ⟨rfl, hw'⟩
          rw [hw']
          clear hw' w'
          go_wp2_with fail
          refine (l2Place_ok D.n D.m D.L D.Z D.P D.T D.M D.Y idn z a a' a3 cap cap' cap3 w1 HG.out.n8 (by omega) hcap HG.out.L HG.out.M (HA.out.1.below HB1.out) (HA.out.2.below HB1.out) (HY.out.below HB1.out)).mono ?_
          rintro e w2 ⟨a1, c1, a2, c2, rfl, hb2, hpa, hla⟩
          have t0 : w2.cell? ⟨w.heap.size + 1, 0, none⟩ = some (.int .i64 0) := cell_below r0 hb2
          have t1 : w2.cell? ⟨w.heap.size + 1, 1, none⟩ = some (.slice none 0 0) := cell_below r1 hb2
          have t2 : w2.cell? ⟨w.heap.size + 1, 2, none⟩ = some (.slice none 0 0) := cell_below r2 hb2
          have tf : ∀ i, w2.frozen? ⟨w.heap.size + 1, i, none⟩ = false := fun i => (hb2.frozen (p := ⟨w.heap.size + 1, i, none⟩) (by show w.heap.size + 1 < _; omega)).trans (fz i)
          have m0 := fun o : Obj => cell_alloc t0 o
          have m1 := fun o : Obj => cell_alloc t1 o
          have m2 := fun o : Obj => cell_alloc t2 o
          have HB2 : Hid (Below w.heap.size w w2) := below_then HB1.out hb2
          have hz2 : w.heap.size + 1 < w2.heap.size := by have := hb2.size; omega
          have mf : ∀ (o : Obj) i, (w2.alloc o).frozen? ⟨w.heap.size + 1, i, none⟩ = false := fun o i => by rw [World.frozen?_alloc_past _ _ _ (by show w.heap.size + 1 < _; omega)]; exact tf i
          have HPA : Hid (OwnP w2 w1.heap.size w2.heap.size a1 D.n (fun _ => 48) D.Z) := hpa
          have HLA : Hid (OwnL w2 w1.heap.size w2.heap.size a2 (D.m + 3) (cat D.P (pcP idn) D.m) (cat D.T pcT D.m) (fun _ => 16) (cat D.Y (pcY z) D.m)) := hla
          clear hb2 hpa hla
          go_wp2_with fail
          rw [HC2.out]
          refine bodyPost_ret (v := .agg #[.int .i64 0, .slice a1 D.n c1, .slice a2 (D.m + 3) c2]) (by simp [results, Try.results132, go_sem, *]) rfl ?_
          have hw : ∀ w7, Writes (w.heap.size + 1) (w.heap.size + 2) w2 w7 → OwnR w7 w.heap.size w7.heap.size a1 a2 (plD D idn z) := fun w7 h => ⟨(HPA.out.writes h (.inr (by omega))).wide (by omega) h.size (Nat.le_refl _), (HLA.out.writes h (.inr (by omega))).wide (by omega) h.size (Nat.le_refl _)⟩
          refine ⟨a1, a2, c1, c2, rfl, ?_, hw _ ?_⟩
          · repeat (first | exact HB2.out | refine Below.setCell ?_ (by first | omega | (simp <;> omega)) _ | refine Below.alloc ?_ (by simp [World.setCell]; omega) _)
          · repeat (first | exact Writes.refl _ _ _ | refine Writes.setCell ?_ (by first | omega | (simp <;> omega)) (by first | omega | (simp <;> omega)) _ | refine Writes.alloc ?_ _)
      · have HC2 : Hid (c = 1) := by have h := HC.out; rw [if_pos hin, if_neg h48] at h; exact h
        clear HC
        go_wp2_with fail
        refine (l2Page_any _ idn D.n a cap _ (by omega) q0).mono ?_
        rintro e w' ⟨rfl, hw'⟩
        rw [hw']
        clear hw' w'
        go_wp2_with fail
        rw [HC2.out]
        refine bodyPost_ret (v := .agg #[.int .i64 1, .slice none 0 0, .slice none 0 0]) (by simp [results, Try.results132, go_sem, *]) rfl ?_
        refine sres_bad ?_ (by decide)
        repeat (first | exact HB1.out | refine Below.setCell ?_ (by first | omega | (simp <;> omega)) _)
    · have hin' : inB idn 0 ((D.n : Int) - 1) = false := by simpa using hin
      have HC2 : Hid (c = 3) := by have h := HC.out; rw [if_neg hin] at h; exact h
      clear HC hin
      go_wp2_with fail
      refine (l2Page_any _ idn D.n a cap _ (by omega) q0).mono ?_
      rintro e w' ⟨rfl, hw'⟩
      rw [hw']
      clear hw' w'
      go_wp2_with fail
      rw [HC2.out]
      refine bodyPost_ret (v := .agg #[.int .i64 3, .slice none 0 0, .slice none 0 0]) (by simp [results, Try.results132, go_sem, *]) rfl ?_
      refine sres_bad ?_ (by decide)
      repeat (first | exact HB1.out | refine Below.setCell ?_ (by first | omega | (simp <;> omega)) _)
  · have hpl : plC D idn k = df D := by unfold plC; rw [if_neg hf]
    rw [hpl]
    have hd : (df D != 0) = true := by simpa using hf
    have HNZ : Hid (df D ≠ 0) := hf
    clear hpl
    go_enter Try.func132, Try.ntmps132
    go_wp2_with fail
    refine (specDf_any D a a' cap cap' _ HS.out (HA.out.below (hb0 _ _))).mono ?_
    rintro e w1 ⟨rfl, hb1⟩
    obtain ⟨hcc, hff⟩ := bcell hb1
    generalize df D = c at *
    clear hf
    go_wp2_with fail
    refine bodyPost_ret (v := .agg #[.int .i64 c, .slice none 0 0, .slice none 0 0]) (by simp [results, Try.results132, go_sem, hcc]) rfl ?_
    refine sres_bad ?_ HNZ.out
    repeat (first | exact below_then (hb0 _ _) hb1 | refine Below.setCell ?_ (by first | omega | (simp <;> omega)) _)
end Go.Proofs.Ytmopoblladnjbaa
