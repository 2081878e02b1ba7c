/- spec.CommitChain. -/
import Derived.Test.YtiabblmjgfkijaaVj
namespace Go.Proofs.Ytiabblmjgfkijaa
open Go.RowKit Go.Deep
set_option linter.unusedVariables false
set_option maxRecDepth 20000

def coG (n : Nat) (R : Nat → Vr) (y : Int) : Bool := decide (1 < n) && decide (y ≤ (R 1).a)
def coC (n : Nat) (R : Nat → Vr) (x y : Int) : Int := if chF n R = 0 then (if (inB x 1 999 && inB y 1 1000000) = true then (if fob n R x = true then (if coG n R y = true then 1 else 0) else 4) else 3) else chF n R
def coN (n : Nat) (R : Nat → Vr) (x y : Int) : Nat := if coC n R x y = 0 then n else 0
def coS (R : Nat → Vr) (y : Int) (i : Nat) : Vr := if i = 0 then ⟨(R 0).t, y, (R 0).g, (R 0).v⟩ else R i
theorem row4_at {w : World} {b off n : Nat} {R : Nat → Vr} {y : Int} (hp : 0 < n) (h : Row4 w b off n R) : Row4 (w.setCell ⟨b, off + 1, none⟩ (.int .i64 y)) b off n (coS R y) := by
  refine ⟨fun i hi => ?_, fun i => by rw [World.frozen?_setCell]; exact h.2 i⟩
  obtain ⟨h0, h1, h2, h3⟩ := h.1 i hi
  by_cases e : i = 0
  · subst e
    rw [show coS R y 0 = ⟨(R 0).t, y, (R 0).g, (R 0).v⟩ from rfl]
    rw [Nat.zero_mul, Nat.add_zero] at *
    exact ⟨by rw [setO (by omega)]; exact h0, setS h1, by rw [setO (by omega)]; exact h2, by rw [setO (by omega)]; exact h3⟩
  · rw [show coS R y i = R i from if_neg e]
    exact ⟨by rw [setO (by omega)]; exact h0, by rw [setO (by omega)]; exact h1, by rw [setO (by omega)]; exact h2, by rw [setO (by omega)]; exact h3⟩
theorem own4_some {w : World} {lo hi n : Nat} {a : Option Addr} {R : Nat → Vr} (h : Own4 w lo hi a n R) (hp : 0 < n) : ∃ b off, a = some ⟨b, off, none⟩ ∧ lo ≤ b ∧ b < hi ∧ hi ≤ w.heap.size ∧ Row4 w b off n R := by
  obtain ⟨h0, h1 | ⟨b, off, ha, h2, h3, h4⟩⟩ := h
  · omega
  · exact ⟨b, off, ha, h2, h3, h0, h4⟩
set_option maxHeartbeats 2000000 in
theorem specCo_any (n : Nat) (R : Nat → Vr) (a : Option Addr) (x y : Int) (w : World) (hn : n ≤ 9223372036854775807) (h : VersAt w a n R) :
    Calls Try.prog 17 #[.slice a n n, .int .i64 x, .int .i64 y] w (CRes (coC n R x y) (coN n R x y) (coS R y) w) := by
  have HA : Hid (VersAt w a n R) := h
  have HV : Hid ((coC n R x y = if chF n R = 0 then (if (inB x 1 999 && inB y 1 1000000) = true then (if fob n R x = true then (if coG n R y = true then 1 else 0) else 4) else 3) else chF n R) ∧ (coN n R x y = if coC n R x y = 0 then n else 0)) := ⟨rfl, rfl⟩
  clear h
  generalize coC n R x y = C at *
  generalize coN n R x y = M at *
  go_enter Try.func17, Try.ntmps17
  go_wp2_with fail
  refine (specChF_any n R a n _ hn (HA.out.below (below_new _ _))).mono ?_
  rintro e w1 ⟨rfl, hb1⟩
  have BX := (BoxR.new w (.int .i64 0) (.slice none 0 0) 28).below hb1
  have HB1 : Hid (Below w.heap.size w w1) := below_then (below_new _ _) hb1
  have hs1 : w.heap.size < w1.heap.size := by have := hb1.size; simp at this; omega
  clear hb1
  have HEB : Hid (∀ u0 u1 : Value, _) := cres_end (m := 0) (a := none) (S := coS R y) HB1.out (Nat.lt_succ_self _) own4_none
  by_cases hc : chF n R = 0
  · rw [hc]
    have HA1 : Hid (VersAt w1 a n R) := HA.out.below HB1.out
    have hn12 := (chF_good hc).1
    by_cases hx : inB x 1 999 = true
    · by_cases hy : inB y 1 1000000 = true
      · have hxy : (inB x 1 999 && inB y 1 1000000) = true := by simp [hx, hy]
        go_wp2_with fail
        refine (l5Txn_any _ _).mono ?_
        rintro e wt ⟨rfl, hwt⟩
        have hwt' := hwt.symm
        clear hwt
        subst hwt'
        rw [hx]
        go_wp2_with fail
        refine (l5At_any _ _).mono ?_
        rintro e wt ⟨rfl, hwt⟩
        have hwt' := hwt.symm
        clear hwt
        subst hwt'
        rw [hy]
        go_wp2_with fail
        refine (l5Writer_any _ R _ _ _ HA1.out).mono ?_
        rintro e wt ⟨rfl, hwt⟩
        have hwt' := hwt.symm
        clear hwt
        subst hwt'
        by_cases hf : fob n R x = true
        · have ⟨hp, ht, ha0⟩ : 0 < n ∧ (R 0).t = x ∧ (R 0).a = 0 := by simpa [fob] using hf
          have hw : wrt n R = x := (if_pos ⟨hp, ha0⟩).trans ht
          rw [hw]
          have hxx : (x != x) = false := by simp
          by_cases hq : coG n R y = true
          · have hC : C = 1 := by rw [HV.out.1, if_pos hc, if_pos hxy, if_pos hf, if_pos hq]
            have hM : M = 0 := by rw [HV.out.2, if_neg (by omega)]
            subst hC hM
            have ⟨h1, h2⟩ : 1 < n ∧ y ≤ (R 1).a := by simpa [coG] using hq
            obtain ⟨b, off, rfl, hl, hcc⟩ : ∃ b off, a = some ⟨b, off, none⟩ ∧ b < w1.heap.size ∧ C4 w1 b (off + 4) (R 1) := by
              rcases HA1.out with h | ⟨b, off, ha, hl, hc⟩
              · omega
              · exact ⟨b, off, ha, hl, by have := hc 1 h1; rwa [Nat.one_mul] at this⟩
            obtain ⟨x0, x1, x2, x3⟩ := hcc
            have h1' : (1 : Int) < (n : Int) := by omega
            obtain ⟨q0, q1, qf⟩ := BX
            clear HV HA HA1 hf hq hw ht ha0
            generalize R 1 = r at *
            obtain ⟨rt, ra, rg, rv⟩ := r
            simp only at x0 x1 x2 x3 h2
            go_wp2_with fail
            refine bodyPost_ret (v := .agg #[.int .i64 1, .slice none 0 0]) (by simp [results, Try.results17, go_sem, *]) rfl ⟨none, 0, rfl, (HEB.out _ _).1, (HEB.out _ _).2⟩
          · have hq' : coG n R y = false := by simpa using hq
            have hC : C = 0 := by rw [HV.out.1, if_pos hc, if_pos hxy, if_pos hf, if_neg hq]
            have hM : n = M := by rw [HV.out.2, if_pos hC]
            subst hC hM
            have hp' : (0 : Int) < (n : Int) := by omega
            by_cases h1 : 1 < n
            · have h2 : ¬ y ≤ (R 1).a := by
                intro h9
                exact hq (by simp [coG]; exact ⟨h1, h9⟩)
              obtain ⟨b, off, rfl, hl, hcc⟩ : ∃ b off, a = some ⟨b, off, none⟩ ∧ b < w1.heap.size ∧ C4 w1 b (off + 4) (R 1) := by
                rcases HA1.out with h | ⟨b, off, ha, hl, hc⟩
                · omega
                · exact ⟨b, off, ha, hl, by have := hc 1 h1; rwa [Nat.one_mul] at this⟩
              obtain ⟨x0, x1, x2, x3⟩ := hcc
              have h1' : (1 : Int) < (n : Int) := by omega
              have h2' : decide (y ≤ (R 1).a) = false := by simp; omega
              clear x0 x2 x3
              go_wp2_with fail
              refine (l5Copy_any n R _ _ _ (by omega) HA1.out).mono ?_
              rintro e w3 ⟨ra, rc, rfl, hb3, ho3⟩
              obtain ⟨q0, q1, qf⟩ := BX.below hb3
              obtain ⟨ob, oo, rfl, ho1, ho2, _, hrow⟩ := own4_some ho3 hp
              obtain ⟨y0, y1, y2, y3⟩ := hrow.1 0 hp
              rw [Nat.zero_mul, Nat.add_zero] at y0 y1 y2 y3
              have yf := hrow.2
              have hne : ¬ w.heap.size = ob := by omega
              have hne2 : ¬ ob = w.heap.size := by omega
              have hB3 := below_then HB1.out hb3
              have ho4 : Own4 (w3.setCell ⟨ob, oo + 1, none⟩ (.int .i64 y)) w1.heap.size (w3.setCell ⟨ob, oo + 1, none⟩ (.int .i64 y)).heap.size (some ⟨ob, oo, none⟩) n (coS R y) := ⟨Nat.le_refl _, .inr ⟨ob, oo, rfl, ho1, by simpa [World.setCell] using ho2, row4_at hp hrow⟩⟩
              have HE : Hid (∀ u0 u1 : Value, _) := cres_end (hB3.setCell (p := ⟨ob, oo + 1, none⟩) (by show w.heap.size ≤ ob; omega) _) hs1 ho4
              clear hb3 ho3 hrow ho4 hB3 HEB HV HA HA1 hf hw ht ha0
              generalize R 0 = r0 at *
              go_wp2_with fail
              refine bodyPost_ret (v := .agg #[.int .i64 0, .slice (some ⟨ob, oo, none⟩) n rc]) (by simp [results, Try.results17, go_sem, *]) rfl ⟨_, rc, rfl, (HE.out _ _).1, (HE.out _ _).2⟩
            · have hp9 : 0 < n := hp
              have h1' : ¬ ((1 : Int) < (n : Int)) := by omega
              go_wp2_with fail
              refine (l5Copy_any n R _ _ _ (by omega) HA1.out).mono ?_
              rintro e w3 ⟨ra, rc, rfl, hb3, ho3⟩
              obtain ⟨q0, q1, qf⟩ := BX.below hb3
              obtain ⟨ob, oo, rfl, ho1, ho2, _, hrow⟩ := own4_some ho3 hp
              obtain ⟨y0, y1, y2, y3⟩ := hrow.1 0 hp
              rw [Nat.zero_mul, Nat.add_zero] at y0 y1 y2 y3
              have yf := hrow.2
              have hne : ¬ w.heap.size = ob := by omega
              have hne2 : ¬ ob = w.heap.size := by omega
              have hB3 := below_then HB1.out hb3
              have ho4 : Own4 (w3.setCell ⟨ob, oo + 1, none⟩ (.int .i64 y)) w1.heap.size (w3.setCell ⟨ob, oo + 1, none⟩ (.int .i64 y)).heap.size (some ⟨ob, oo, none⟩) n (coS R y) := ⟨Nat.le_refl _, .inr ⟨ob, oo, rfl, ho1, by simpa [World.setCell] using ho2, row4_at hp hrow⟩⟩
              have HE : Hid (∀ u0 u1 : Value, _) := cres_end (hB3.setCell (p := ⟨ob, oo + 1, none⟩) (by show w.heap.size ≤ ob; omega) _) hs1 ho4
              clear hb3 ho3 hrow ho4 hB3 HEB HV HA HA1 hf hw ht ha0
              generalize R 0 = r0 at *
              go_wp2_with fail
              refine bodyPost_ret (v := .agg #[.int .i64 0, .slice (some ⟨ob, oo, none⟩) n rc]) (by simp [results, Try.results17, go_sem, *]) rfl ⟨_, rc, rfl, (HE.out _ _).1, (HE.out _ _).2⟩
        · have hC : C = 4 := by rw [HV.out.1, if_pos hc, if_pos hxy, if_neg hf]
          have hM : M = 0 := by rw [HV.out.2, if_neg (by omega)]
          subst hC hM
          have hw : wrt n R ≠ x := by
            intro e
            unfold wrt at e
            split at e
            · rename_i h9
              exact hf (by simp [fob, h9.1, h9.2, e])
            · rw [inB_iff] at hx; omega
          clear HV
          generalize wrt n R = z at *
          have hwx : (z != x) = true := by simp [hw]
          obtain ⟨q0, q1, qf⟩ := BX
          go_wp2_with fail
          refine bodyPost_ret (v := .agg #[.int .i64 4, .slice none 0 0]) (by simp [results, Try.results17, go_sem, *]) rfl ⟨none, 0, rfl, (HEB.out _ _).1, (HEB.out _ _).2⟩
      · have hy' : inB y 1 1000000 = false := by simpa using hy
        have hC : C = 3 := by rw [HV.out.1, if_pos hc, if_neg (by simp [hy'])]
        have hM : M = 0 := by rw [HV.out.2, if_neg (by omega)]
        subst hC hM
        obtain ⟨q0, q1, qf⟩ := BX
        go_wp2_with fail
        refine (l5Txn_any _ _).mono ?_
        rintro e wt ⟨rfl, hwt⟩
        have hwt' := hwt.symm
        clear hwt
        subst hwt'
        rw [hx]
        go_wp2_with fail
        refine (l5At_any _ _).mono ?_
        rintro e wt ⟨rfl, hwt⟩
        have hwt' := hwt.symm
        clear hwt
        subst hwt'
        rw [hy']
        go_wp2_with fail
        refine bodyPost_ret (v := .agg #[.int .i64 3, .slice none 0 0]) (by simp [results, Try.results17, go_sem, *]) rfl ⟨none, 0, rfl, (HEB.out _ _).1, (HEB.out _ _).2⟩
    · have hx' : inB x 1 999 = false := by simpa using hx
      have hC : C = 3 := by rw [HV.out.1, if_pos hc, if_neg (by simp [hx'])]
      have hM : M = 0 := by rw [HV.out.2, if_neg (by omega)]
      subst hC hM
      obtain ⟨q0, q1, qf⟩ := BX
      go_wp2_with fail
      refine (l5Txn_any _ _).mono ?_
      rintro e wt ⟨rfl, hwt⟩
      have hwt' := hwt.symm
      clear hwt
      subst hwt'
      rw [hx']
      go_wp2_with fail
      refine bodyPost_ret (v := .agg #[.int .i64 3, .slice none 0 0]) (by simp [results, Try.results17, go_sem, *]) rfl ⟨none, 0, rfl, (HEB.out _ _).1, (HEB.out _ _).2⟩
  · have hC : C = chF n R := by rw [HV.out.1, if_neg hc]
    have hM : M = 0 := by rw [HV.out.2, if_neg (by omega)]
    subst hM
    rw [← hC]
    rw [← hC] at hc
    clear HV hC
    have hc1 : (C != 0) = true := by simp [hc]
    obtain ⟨q0, q1, qf⟩ := BX
    go_wp2_with fail
    refine bodyPost_ret (v := .agg #[.int .i64 C, .slice none 0 0]) (by simp [results, Try.results17, go_sem, *]) rfl ⟨none, 0, rfl, (HEB.out _ _).1, (HEB.out _ _).2⟩
end Go.Proofs.Ytiabblmjgfkijaa
