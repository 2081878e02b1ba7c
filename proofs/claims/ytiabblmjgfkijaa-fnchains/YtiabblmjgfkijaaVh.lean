/- Both WriterOfs. -/
import Derived.Test.YtiabblmjgfkijaaVg
namespace Go.Proofs.Ytiabblmjgfkijaa
open Go.RowKit Go.Deep
set_option linter.unusedVariables false
set_option maxRecDepth 20000

/-- A box of two cells that may be written. -/
def BoxR (w : World) (B : Nat) (c0 c1 : Value) : Prop := w.cell? ⟨B, 0, none⟩ = some c0 ∧ w.cell? ⟨B, 1, none⟩ = some c1 ∧ ∀ i, w.frozen? ⟨B, i, none⟩ = false
theorem BoxR.below {w w' : World} {B : Nat} {c0 c1 : Value} (h : BoxR w B c0 c1) (hb : Below w.heap.size w w') : BoxR w' B c0 c1 :=
  ⟨cell_below h.1 hb, cell_below h.2.1 hb, fun i => (hb.frozen (p := ⟨B, i, none⟩) (show B < w.heap.size from Go.block_lt_of_cell h.1)).trans (h.2.2 i)⟩
theorem BoxR.new (w : World) (c0 c1 : Value) (T : TypeId) : BoxR (w.alloc (.cells #[c0, c1] T)) w.heap.size c0 c1 := by simp [BoxR, go_sem]
def woC (n : Nat) (R : Nat → Vr) : Int := if chF n R = 0 then (if wrt n R = 0 then 4 else 0) else chF n R
def woV (n : Nat) (R : Nat → Vr) : Int := if chF n R = 0 then wrt n R else 0
theorem wrt_open {n : Nat} {R : Nat → Vr} (hc : chF n R = 0) (h : fop n R = true) : 0 < n ∧ wrt n R = (R 0).t ∧ ¬ (R 0).t = 0 := by
  have ⟨h1, h2⟩ : 0 < n ∧ (R 0).a = 0 := by simpa [fop] using h
  have hg := ((chF_good hc).2 0 h1).1
  have ht : inB (R 0).t 1 999 = true := by
    simp only [vR, Bool.and_eq_true] at hg
    exact hg.1.1
  rw [inB_iff] at ht
  exact ⟨h1, if_pos ⟨h1, h2⟩, by omega⟩
theorem wrt_shut {n : Nat} {R : Nat → Vr} (h : fop n R = false) : wrt n R = 0 := by
  have : ¬ (0 < n ∧ (R 0).a = 0) := by
    intro ⟨h1, h2⟩
    simp [fop, h1, h2] at h
  exact if_neg this
theorem implWo_any (n : Nat) (R : Nat → Vr) (a : Option Addr) (cap : Nat) (w : World) (hn : n ≤ 9223372036854775807) (h : VersAt w a n R) :
    Calls Try.prog 15 #[.slice a n cap] w fun e w' => e = .returned (.agg #[.int .i64 (woC n R), .int .i64 (woV n R)]) ∧ Below w.heap.size w w' := by
  have HA : Hid (VersAt w a n R) := h
  have HV : Hid ((woC n R = if chF n R = 0 then (if wrt n R = 0 then 4 else 0) else chF n R) ∧ (woV n R = if chF n R = 0 then wrt n R else 0)) := ⟨rfl, rfl⟩
  clear h
  generalize woC n R = C at *
  generalize woV n R = V at *
  go_enter Try.func15, Try.ntmps15
  go_wp2_with fail
  refine (implChF_any n R a cap _ hn (HA.out.below (below_new _ _))).mono ?_
  rintro e w1 ⟨rfl, hb1⟩
  have BX := (BoxR.new w (.int .i64 0) (.int .i64 0) 34).below hb1
  have HB1 : Hid (Below w.heap.size w w1) := below_then (below_new _ _) hb1
  clear hb1
  by_cases hc : chF n R = 0
  · have HA1 : Hid (VersAt w1 a n R) := HA.out.below HB1.out
    rw [hc]
    go_wp2_with fail
    refine (firstIsOpen_any n R a cap w1 HA1.out).mono ?_
    rintro e w2 ⟨rfl, hb2⟩
    obtain ⟨q0, q1, qf⟩ := BX.below hb2
    have HB2 : Hid (Below w.heap.size w w2) := below_then HB1.out hb2
    clear hb2 BX
    by_cases hw : fop n R = true
    · obtain ⟨hp, h1, h2⟩ := wrt_open hc hw
      obtain ⟨rfl, hV⟩ : C = 0 ∧ V = (R 0).t := by have := HV.out; simpa [hc, h1, h2] using this
      obtain ⟨b, off, rfl, hl, x0, x1, x2, x3⟩ := (HA.out.below HB2.out).first hp
      have hp' : (0 : Int) < (n : Int) := by omega
      rw [hw]
      clear HV h1 h2 HA HA1
      rw [← hV] at x0
      clear hV
      generalize R 0 = r at *
      go_wp2_with fail
      refine bodyPost_ret (v := .agg #[.int .i64 0, .int .i64 V]) (by simp [results, Try.results15, go_sem, *]) rfl ⟨rfl, ?_⟩
      repeat (first | exact HB2.out | refine Below.setCell ?_ (by first | omega | (simp <;> omega)) _)
    · have hw' : fop n R = false := by simpa using hw
      obtain ⟨rfl, rfl⟩ : C = 4 ∧ V = 0 := by have := HV.out; simpa [hc, wrt_shut hw'] using this
      rw [hw']
      go_wp2_with fail
      refine bodyPost_ret (v := .agg #[.int .i64 4, .int .i64 0]) (by simp [results, Try.results15, go_sem, *]) rfl ⟨rfl, ?_⟩
      repeat (first | exact HB2.out | refine Below.setCell ?_ (by first | omega | (simp <;> omega)) _)
  · obtain ⟨hC, rfl⟩ : C = chF n R ∧ V = 0 := by have := HV.out; simpa [hc] using this
    obtain ⟨q0, q1, qf⟩ := BX
    rw [← hC]
    rw [← hC] at hc
    clear hC HV
    have hc1 : (C != 0) = true := by simp [hc]
    go_wp2_with fail
    refine bodyPost_ret (v := .agg #[.int .i64 C, .int .i64 0]) (by simp [results, Try.results15, go_sem, *]) rfl ⟨rfl, ?_⟩
    repeat (first | exact HB1.out | refine Below.setCell ?_ (by first | omega | (simp <;> omega)) _)
end Go.Proofs.Ytiabblmjgfkijaa
