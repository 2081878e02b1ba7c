/- spec.DrawPurgeChain. -/
import Derived.Test.YtiabblmjgfkijaaDva
namespace Go.Proofs.Ytiabblmjgfkijaa
open Go.RowKit Go.Deep
set_option linter.unusedVariables false
set_option maxRecDepth 20000

theorem VersAt.dw {w w' : World} {S g n : Nat} {a : Option Addr} {kk cap : Nat} {z : Nat → Int} {t : Nat} {R : Nat → Vr} (h : VersAt w (some ⟨g, 0, none⟩) n R) (hg : g ≠ S) (d : Dw S a kk cap z t w w') : VersAt w' (some ⟨g, 0, none⟩) n R := by
  rcases h with h | ⟨b, off, e, hl, hc⟩
  · exact .inl h
  · simp only [Option.some.injEq, Addr.mk.injEq, and_true] at e
    obtain ⟨rfl, rfl⟩ := e
    exact .inr ⟨_, _, rfl, Nat.lt_of_lt_of_le hl d.1.size, fun i hi => (hc i hi).block (d.1.block _ hl (by omega))⟩
set_option maxHeartbeats 4000000 in
theorem drawPu_any (a : Option Addr) (k cap : Nat) (z : Nat → Int) (w : World) (hk : k ≤ 1048576) (hz : Byt k z) (h : BytesAt w a k z) :
    Calls Try.prog 6 #[.slice a k cap] w fun e w' => ∃ (g n c : Nat) (R : Nat → Vr) (f : Int), e = .returned (.tuple #[.slice (some ⟨g, 0, none⟩) n c, .int .i64 f]) ∧ n ≤ 13 ∧ n ≤ c ∧ (-1 ≤ f ∧ f ≤ 1000001) ∧ VersAt w' (some ⟨g, 0, none⟩) n R ∧ Below w.heap.size w w' := by
  have HB : Hid (BytesAt w a k z) := h
  have HZ : Hid (Byt k z) := hz
  clear h hz
  go_enter Try.func6, Try.ntmps6
  go_wp2_with fail
  refine (l1Source_any a k cap z w hk HZ.out HB.out).mono ?_
  rintro e w1 ⟨rfl, hb1, hsz1, hs1⟩
  have HS1 : Hid (Src w1 w.heap.size a k cap z 0) := hs1
  have HB1 : Hid (Below w.heap.size w w1) := hb1
  have hS1 : w.heap.size < w1.heap.size := by omega
  clear hb1 hsz1 hs1 HB HZ
  obtain ⟨S, hS⟩ : ∃ S, S = w.heap.size := ⟨_, rfl⟩
  rw [← hS] at HS1 hS1 ⊢
  have HSw : Hid (S = w.heap.size) := hS
  have HS9 : Hid (S < w1.heap.size) := hS1
  clear hS hS1
  go_wp2_with fail
  refine (l5Bent_any S a k cap z 0 w1 (by omega) HS1.out).mono ?_
  rintro e w2 ⟨g, n, c, R, t', rfl, hn13, hnc, ht, hv, hg, hd⟩
  have HV : Hid (VersAt w2 (some ⟨g, 0, none⟩) n R) := hv
  have HD : Hid (Dw S a k cap z t' w1 w2) := hd
  have HGS : Hid (g ≠ S) := by show g ≠ S; have := HS9.out; omega
  clear hv hd hg HS1
  go_wp2_with fail
  refine (l1Next_any S a k cap z t' 40 _ (by omega) (by omega) HD.out.src).mono ?_
  rintro e w3 ⟨v1, rfl, hx1, hn⟩
  replace HV : Hid (VersAt w3 (some ⟨g, 0, none⟩) n R) := HV.out.dw HGS.out hn.dw
  replace HD : Hid (Dw S a k cap z (t' + 1) w1 w3) := HD.out.trans hn.dw
  have hq1 : 0 ≤ v1 ∧ v1 < 40 := ⟨hx1.1, hx1.2.1 (by omega)⟩
  have hw1 : IntKind.i64.wrap (30 + v1) = 30 + v1 := by rw [IntKind.wrap_i64]; omega
  clear hn hx1
  go_wp2_with fail
  refine (l1Next_any S a k cap z (t' + 1) 40 _ (by omega) (by omega) HD.out.src).mono ?_
  rintro e w4 ⟨v2, rfl, hx2, hn⟩
  replace HV : Hid (VersAt w4 (some ⟨g, 0, none⟩) n R) := HV.out.dw HGS.out hn.dw
  replace HD : Hid (Dw S a k cap z (t' + 2) w1 w4) := HD.out.trans hn.dw
  have hq2 : 0 ≤ v2 ∧ v2 < 40 := ⟨hx2.1, hx2.2.1 (by omega)⟩
  have hw2 : IntKind.i64.wrap (30 + v2) = 30 + v2 := by rw [IntKind.wrap_i64]; omega
  clear hn hx2
  go_wp2_with fail
  have hSl : S < w4.heap.size := HD.out.src.lt
  have HV5 : Hid (∀ o : Obj, VersAt (w4.alloc o) (some ⟨g, 0, none⟩) n R) := fun o => HV.out.below (below_new _ _)
  have HD5 : Hid (∀ o : Obj, Dw S a k cap z (t' + 2) w1 (w4.alloc o)) := fun o => HD.out.below (below_new _ _)
  refine (l1Pick_any S a k cap z (t' + 2) w4.heap.size 0 6 6 (fun i => if i = 0 then 30 + v1 else if i = 1 then 30 + v2 else if i = 2 then 0 else if i = 3 then 1000000 else if i = 4 then 1000001 else -1) _ (by omega) (by omega) (by omega) (by omega) (by simp [go_sem]) (fun i hi => ?_) (HD5.out _).src).mono ?_
  · rcases i with - | - | - | - | - | - | i
    · simp [go_sem]
    · simp [go_sem]
    · simp [go_sem]
    · simp [go_sem]
    · simp [go_sem]
    · simp [go_sem]
    · omega
  rintro e w6 ⟨i, hi, rfl, hn⟩
  have HV6 : Hid (VersAt w6 (some ⟨g, 0, none⟩) n R) := (HV5.out _).dw HGS.out hn.dw
  have HB6 : Hid (Below w.heap.size w w6) := by
    have hd := (HD5.out _).trans hn.dw
    have h1 := hd.1
    have hb := HB1.out
    refine ⟨h1.os.trans hb.os, h1.tape.trans hb.tape, h1.output.trans hb.output, Nat.le_trans hb.size h1.size, fun b hbl => (h1.block b (Nat.lt_of_lt_of_le hbl hb.size) (.inl (by have := HSw.out; omega))).trans (hb.block b hbl)⟩
  obtain ⟨f, hf, hfe⟩ : ∃ f : Int, (-1 ≤ f ∧ f ≤ 1000001) ∧ (if i = 0 then 30 + v1 else if i = 1 then 30 + v2 else if i = 2 then 0 else if i = 3 then 1000000 else if i = 4 then 1000001 else -1) = f := by
    refine ⟨_, ?_, rfl⟩
    repeat' split
    all_goals omega
  rw [hfe]
  clear hfe hn HV HD HV5 HD5 HB1 hw1 hw2 hq1 hq2 hSl
  go_wp2_with fail
  exact bodyPost_ret (v := .tuple #[.slice (some ⟨g, 0, none⟩) n c, .int .i64 f]) (by simp [results, Try.results6, go_sem]) rfl ⟨g, n, c, R, f, rfl, hn13, hnc, hf, HV6.out, HB6.out⟩
end Go.Proofs.Ytiabblmjgfkijaa
