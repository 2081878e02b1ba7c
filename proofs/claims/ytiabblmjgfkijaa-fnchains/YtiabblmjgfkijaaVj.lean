/- Both RollChains. -/
import Derived.Test.YtiabblmjgfkijaaVi
namespace Go.Proofs.Ytiabblmjgfkijaa
open Go.RowKit Go.Deep
set_option linter.unusedVariables false
set_option maxRecDepth 20000

/-- An answer that is a chain. -/
def CRes (c : Int) (m : Nat) (S : Nat → Vr) (w : World) (e : Ending) (w' : World) : Prop := ∃ a cap, e = .returned (.agg #[.int .i64 c, .slice a m cap]) ∧ Below w.heap.size w w' ∧ Own4 w' w.heap.size w'.heap.size a m S
/-- What lies behind the store of an answer into its box. -/
theorem cres_end {w w3 : World} {lo m : Nat} {a : Option Addr} {S : Nat → Vr} (hb : Below w.heap.size w w3) (hl : w.heap.size < lo) (ho : Own4 w3 lo w3.heap.size a m S) (u0 u1 : Value) :
    Below w.heap.size w ((w3.setCell ⟨w.heap.size, 0, none⟩ u0).setCell ⟨w.heap.size, 1, none⟩ u1) ∧
      Own4 ((w3.setCell ⟨w.heap.size, 0, none⟩ u0).setCell ⟨w.heap.size, 1, none⟩ u1) w.heap.size ((w3.setCell ⟨w.heap.size, 0, none⟩ u0).setCell ⟨w.heap.size, 1, none⟩ u1).heap.size a m S := by
  refine ⟨(hb.setCell (p := ⟨w.heap.size, 0, none⟩) (Nat.le_refl _) _).setCell (p := ⟨w.heap.size, 1, none⟩) (Nat.le_refl _) _, ?_⟩
  have hw : Writes w.heap.size (w.heap.size + 1) w3 ((w3.setCell ⟨w.heap.size, 0, none⟩ u0).setCell ⟨w.heap.size, 1, none⟩ u1) :=
    ((Writes.refl _ _ _).setCell (p := ⟨w.heap.size, 0, none⟩) (Nat.le_refl _) (Nat.lt_succ_self _) _).setCell (p := ⟨w.heap.size, 1, none⟩) (Nat.le_refl _) (Nat.lt_succ_self _) _
  exact (ho.writes hw (.inr (by omega))).wide (by omega) hw.size (Nat.le_refl _)
theorem own4_none {w : World} {lo : Nat} {a : Option Addr} {S : Nat → Vr} : Own4 w lo w.heap.size a 0 S := ⟨Nat.le_refl _, .inl rfl⟩
def roC (n : Nat) (R : Nat → Vr) (x : Int) : Int := if chF n R = 0 then (if inB x 1 999 = true then (if fob n R x = true then 0 else 4) else 3) else chF n R
def roN (n : Nat) (R : Nat → Vr) (x : Int) : Nat := if roC n R x = 0 then n - 1 else 0
theorem VersAt.rest {w : World} {b off n : Nat} {R : Nat → Vr} (h : VersAt w (some ⟨b, off, none⟩) n R) : VersAt w (some ⟨b, off + 4, none⟩) (n - 1) (fun i => R (i + 1)) := by
  rcases h with h | ⟨b', off', e, hl, hc⟩
  · exact .inl (by omega)
  · simp only [Option.some.injEq, Addr.mk.injEq] at e
    obtain ⟨rfl, rfl, -⟩ := e
    refine .inr ⟨b, off + 4, rfl, hl, fun i hi => ?_⟩
    have := hc (i + 1) (by omega)
    rw [show off + (i + 1) * 4 = off + 4 + i * 4 by omega] at this
    exact this
set_option maxHeartbeats 2000000 in
theorem implRo_any (n : Nat) (R : Nat → Vr) (a : Option Addr) (x : Int) (w : World) (hn : n ≤ 9223372036854775807) (h : VersAt w a n R) :
    Calls Try.prog 18 #[.slice a n n, .int .i64 x] w (CRes (roC n R x) (roN n R x) (fun i => R (i + 1)) w) := by
  have HA : Hid (VersAt w a n R) := h
  have HV : Hid ((roC n R x = if chF n R = 0 then (if inB x 1 999 = true then (if fob n R x = true then 0 else 4) else 3) else chF n R) ∧ (roN n R x = if roC n R x = 0 then n - 1 else 0)) := ⟨rfl, rfl⟩
  clear h
  generalize roC n R x = C at *
  generalize roN n R x = M at *
  go_enter Try.func18, Try.ntmps18
  go_wp2_with fail
  refine (implChF_any n R a n _ hn (HA.out.below (below_new _ _))).mono ?_
  rintro e w1 ⟨rfl, hb1⟩
  have BX := (BoxR.new w (.int .i64 0) (.slice none 0 0) 28).below hb1
  have HB1 : Hid (Below w.heap.size w w1) := below_then (below_new _ _) hb1
  have hs1 : w.heap.size < w1.heap.size := by have := hb1.size; simp at this; omega
  clear hb1
  by_cases hc : chF n R = 0
  · rw [hc]
    by_cases hx : inB x 1 999 = true
    · have HA1 : Hid (VersAt w1 a n R) := HA.out.below HB1.out
      have hn12 := (chF_good hc).1
      by_cases hf : fob n R x = true
      · have ⟨hp, ht, ha0⟩ : 0 < n ∧ (R 0).t = x ∧ (R 0).a = 0 := by simpa [fob] using hf
        have hw : wrt n R = x := (if_pos ⟨hp, ha0⟩).trans ht
        have hC : C = 0 := by rw [HV.out.1, if_pos hc, if_pos hx, if_pos hf]
        have hM : M = n - 1 := by rw [HV.out.2, if_pos hC]
        subst hC hM
        obtain ⟨b, off, rfl, hl, -⟩ := HA1.out.first hp
        clear HV ht ha0
        have hp' : (1 : Int) ≤ (n : Int) := by omega
        have hxx : (x != x) = false := by simp
        by_cases h1 : n = 1
        · subst h1
          go_wp2_with fail
          refine (isTxn_any _ _).mono ?_
          rintro e wt ⟨rfl, hwt⟩
          have hwt' := hwt.symm
          clear hwt
          subst hwt'
          rw [hx]
          go_wp2_with fail
          refine (firstIsOpenBy_any _ R _ _ x _ HA1.out).mono ?_
          rintro e w2 ⟨rfl, hb2⟩
          rw [hf]
          have HB2 : Hid (Below w.heap.size w w2) := below_then HB1.out hb2
          have BX2 := BX.below hb2
          have hs2 : w.heap.size < w2.heap.size := Nat.lt_of_lt_of_le hs1 hb2.size
          clear hb2
          go_wp2_with fail
          have hjo : jv (fun _ => 0) (fun _ i => R (i + 1)) 1 = vL (fun i => R (i + 1)) 0 := by simp [jv]
          have hjp : ∀ i, i < 1 → (w2.alloc (.cells #[.slice (some ⟨b, off, none⟩) 0 0] 24)).cell? ⟨w2.heap.size, 0 + i, none⟩ = some (.slice (some ⟨b, off, none⟩) 0 0) ∧ VersAt (w2.alloc (.cells #[.slice (some ⟨b, off, none⟩) 0 0] 24)) (some ⟨b, off, none⟩) 0 (fun i => R (i + 1)) := fun i hi => by
            obtain rfl : i = 0 := by omega
            exact ⟨by simp [go_sem], VersAt.below (.inl rfl) (below_new _ _)⟩
          have hj := joined_any 1 (fun _ => some ⟨b, off, none⟩) (fun _ => 0) (fun _ => 0) (fun _ i => R (i + 1)) w2.heap.size 0 1 _ (fun i hi => by omega) (by simp) hjp (by omega)
          rw [hjo, vL_len] at hj
          refine hj.mono ?_
          rintro e w3 ⟨ra, rc, rfl, hb3, ho3⟩
          replace ho3 := ho3.congr (S := fun i => R (i + 1)) (fun i hi => vL_getD hi)
          have hs3 : w.heap.size < (w2.alloc (.cells #[.slice (some ⟨b, off, none⟩) 0 0] 24)).heap.size := by simp; omega
          have hb4 := below_then (below_new _ _) hb3
          obtain ⟨q0, q1, qf⟩ := BX2.below hb4
          have HE : Hid (∀ u0 u1 : Value, _) := cres_end (below_then HB2.out hb4) hs3 ho3
          clear hb3 ho3 hb4 hj hjp hjo hs3
          go_wp2_with fail
          refine bodyPost_ret (v := .agg #[.int .i64 0, .slice ra 0 rc]) (by simp [results, Try.results18, go_sem, *]) rfl ⟨ra, rc, rfl, (HE.out _ _).1, (HE.out _ _).2⟩
        · have h2 : ¬ ((1 : Int) = (n : Int)) := by omega
          have h3 : ¬ ((n : Int) = 1) := by omega
          have h5 : (1 : Int) < (n : Int) := by omega
          go_wp2_with fail
          refine (isTxn_any _ _).mono ?_
          rintro e wt ⟨rfl, hwt⟩
          have hwt' := hwt.symm
          clear hwt
          subst hwt'
          rw [hx]
          go_wp2_with fail
          refine (firstIsOpenBy_any _ R _ _ x _ HA1.out).mono ?_
          rintro e w2 ⟨rfl, hb2⟩
          rw [hf]
          have HB2 : Hid (Below w.heap.size w w2) := below_then HB1.out hb2
          have BX2 := BX.below hb2
          have hs2 : w.heap.size < w2.heap.size := Nat.lt_of_lt_of_le hs1 hb2.size
          clear hb2
          go_wp2_with fail
          have hjo : jv (fun _ => (n - 1)) (fun _ i => R (i + 1)) 1 = vL (fun i => R (i + 1)) (n - 1) := by simp [jv]
          have hjp : ∀ i, i < 1 → (w2.alloc (.cells #[.slice (some ⟨b, off + 4, none⟩) (n - 1) (n - 1)] 24)).cell? ⟨w2.heap.size, 0 + i, none⟩ = some (.slice (some ⟨b, off + 4, none⟩) (n - 1) (n - 1)) ∧ VersAt (w2.alloc (.cells #[.slice (some ⟨b, off + 4, none⟩) (n - 1) (n - 1)] 24)) (some ⟨b, off + 4, none⟩) (n - 1) (fun i => R (i + 1)) := fun i hi => by
            obtain rfl : i = 0 := by omega
            exact ⟨by simp [go_sem], VersAt.below (HA.out.below HB2.out).rest (below_new _ _)⟩
          have hj := joined_any 1 (fun _ => some ⟨b, off + 4, none⟩) (fun _ => (n - 1)) (fun _ => (n - 1)) (fun _ i => R (i + 1)) w2.heap.size 0 1 _ (fun i hi => by omega) (by simp) hjp (by omega)
          rw [hjo, vL_len] at hj
          refine hj.mono ?_
          rintro e w3 ⟨ra, rc, rfl, hb3, ho3⟩
          replace ho3 := ho3.congr (S := fun i => R (i + 1)) (fun i hi => vL_getD hi)
          have hs3 : w.heap.size < (w2.alloc (.cells #[.slice (some ⟨b, off + 4, none⟩) (n - 1) (n - 1)] 24)).heap.size := by simp; omega
          have hb4 := below_then (below_new _ _) hb3
          obtain ⟨q0, q1, qf⟩ := BX2.below hb4
          have HE : Hid (∀ u0 u1 : Value, _) := cres_end (below_then HB2.out hb4) hs3 ho3
          clear hb3 ho3 hb4 hj hjp hjo hs3
          go_wp2_with fail
          refine bodyPost_ret (v := .agg #[.int .i64 0, .slice ra (n - 1) rc]) (by simp [results, Try.results18, go_sem, *]) rfl ⟨ra, rc, rfl, (HE.out _ _).1, (HE.out _ _).2⟩
      · have hf' : fob n R x = false := by simpa using hf
        have hC : C = 4 := by rw [HV.out.1, if_pos hc, if_pos hx, if_neg hf]
        have hM : M = 0 := by rw [HV.out.2, if_neg (by omega)]
        subst hC hM
        clear HV
        have hw : wrt n R ≠ x := by
          intro e
          unfold wrt at e
          split at e
          · rename_i h9
            exact hf (by simp [fob, h9.1, h9.2, e])
          · rw [inB_iff] at hx; omega
        have hwx : (wrt n R != x) = true := by simp [hw]
        go_wp2_with fail
        refine (isTxn_any _ _).mono ?_
        rintro e wt ⟨rfl, hwt⟩
        have hwt' := hwt.symm
        clear hwt
        subst hwt'
        rw [hx]
        go_wp2_with fail
        refine (firstIsOpenBy_any _ R _ _ x _ HA1.out).mono ?_
        rintro e w2 ⟨rfl, hb2⟩
        rw [hf']
        have HB2 : Hid (Below w.heap.size w w2) := below_then HB1.out hb2
        have BX2 := BX.below hb2
        have hs2 : w.heap.size < w2.heap.size := Nat.lt_of_lt_of_le hs1 hb2.size
        clear hb2
        obtain ⟨q0, q1, qf⟩ := BX2
        have HE : Hid (∀ u0 u1 : Value, _) := cres_end (m := 0) (a := none) (S := fun i => R (i + 1)) HB2.out (Nat.lt_succ_self _) own4_none
        go_wp2_with fail
        refine bodyPost_ret (v := .agg #[.int .i64 4, .slice none 0 0]) (by simp [results, Try.results18, go_sem, *]) rfl ⟨none, 0, rfl, (HE.out _ _).1, (HE.out _ _).2⟩
    · have hx' : inB x 1 999 = false := by simpa using hx
      have hC : C = 3 := by rw [HV.out.1, if_pos hc, if_neg hx]
      have hM : M = 0 := by rw [HV.out.2, if_neg (by omega)]
      subst hC hM
      clear HV
      go_wp2_with fail
      refine (isTxn_any _ _).mono ?_
      rintro e wt ⟨rfl, hwt⟩
      have hwt' := hwt.symm
      clear hwt
      subst hwt'
      rw [hx']
      obtain ⟨q0, q1, qf⟩ := BX
      have HE : Hid (∀ u0 u1 : Value, _) := cres_end (m := 0) (a := none) (S := fun i => R (i + 1)) HB1.out (Nat.lt_succ_self _) own4_none
      go_wp2_with fail
      refine bodyPost_ret (v := .agg #[.int .i64 3, .slice none 0 0]) (by simp [results, Try.results18, go_sem, *]) rfl ⟨none, 0, rfl, (HE.out _ _).1, (HE.out _ _).2⟩
  · have hC : C = chF n R := by rw [HV.out.1, if_neg hc]
    have hM : M = 0 := by rw [HV.out.2, if_neg (by omega)]
    subst hM
    rw [← hC]
    rw [← hC] at hc
    clear HV hC
    have hc1 : (C != 0) = true := by simp [hc]
    obtain ⟨q0, q1, qf⟩ := BX
    have HE : Hid (∀ u0 u1 : Value, _) := cres_end (m := 0) (a := none) (S := fun i => R (i + 1)) HB1.out (Nat.lt_succ_self _) own4_none
    go_wp2_with fail
    refine bodyPost_ret (v := .agg #[.int .i64 C, .slice none 0 0]) (by simp [results, Try.results18, go_sem, *]) rfl ⟨none, 0, rfl, (HE.out _ _).1, (HE.out _ _).2⟩
end Go.Proofs.Ytiabblmjgfkijaa
