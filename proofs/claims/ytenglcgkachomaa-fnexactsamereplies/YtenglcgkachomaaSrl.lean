/- FnExactSameReplies: the walk of the law. -/
import Derived.Test.YtenglcgkachomaaSra
namespace Go.Proofs.Ytenglcgkachomaa
open Go.ChangeShapes Go.WideShapes Go.ChangeAt Go.RowKit Go.Deep Go.Joins
set_option linter.unusedVariables false
set_option maxRecDepth 20000

theorem smf_le_of {f : Nat → Nat} {n i : Nat} (h : i < n) {B : Nat} (hb : smf f n ≤ B) : f i ≤ B := Nat.le_trans (smf_ge f n i h) hb
theorem smallRps {n : Nat} {T : Nat → Rp} {x r : Int} (hx : x ≤ 1048576) (h0 : 0 ≤ r) (h : r = x - n - smRp T n) : n ≤ 1048576 ∧ ∀ i, i < n → SmRp (T i) :=
  ⟨by omega, fun i hi => ⟨by have := smf_ge (fun i => szRp (T i)) n i hi; unfold smRp at h; unfold szRp at *; omega, trivial⟩⟩
set_option maxHeartbeats 4000000 in
theorem sameRepliesLaw (n : Nat) (T : Nat → Rp) (a : Option Addr) (cap : Nat) (m : Nat) (U : Nat → Rp) (d : Option Addr) (cap2 : Nat) (w : World) (hn : n ≤ 9223372036854775807) (hB : ∀ i, i < n → BigRp (T i)) (h : RpsAt w a n T) (hm : m ≤ 9223372036854775807) (hB2 : ∀ i, i < m → BigRp (U i)) (h2 : RpsAt w d m U) :
    Calls Try.prog 4 #[.slice a n cap, .slice d m cap2] w fun e w' => e = .returned (.bool true) ∧ Below w.heap.size w w' := by
  have HA : Hid (RpsAt w a n T) := h
  have HD : Hid (RpsAt w d m U) := h2
  clear h h2
  go_enter Try.func4, Try.ntmps4
  go_wp2_with fail
  refine (szReplyS_any n T a cap 1048576 _ hn hB (by omega) (by omega) HA.out).mono ?_
  rintro e w1 ⟨hb1, r, rfl, hr⟩
  have HB1 : Hid (Below w.heap.size w w1) := hb1
  clear hb1
  rcases hr with rfl | ⟨hr0, hr1⟩
  · go_wp2_with fail
    go_ret
    exact ⟨rfl, HB1.out⟩
  obtain ⟨hnA, hSA⟩ := smallRps (by omega) hr0 hr1
  have hng : ¬ r < 0 := by omega
  have hle : r ≤ 1048576 := by omega
  clear hr1 hn hB
  go_wp2_with fail
  refine (szReplyS_any m U d cap2 r _ hm hB2 hr0 hle (HD.out.below HB1.out)).mono ?_
  rintro e w2 ⟨hb2, r2, rfl, hr⟩
  have HB2 : Hid (Below w.heap.size w w2) := below_then HB1.out hb2
  clear hb2
  rcases hr with rfl | ⟨hr2, hr3⟩
  · go_wp2_with fail
    go_ret
    exact ⟨rfl, HB2.out⟩
  obtain ⟨hnD, hSD⟩ := smallRps hle hr2 hr3
  have hng2 : ¬ r2 < 0 := by omega
  have HSA : Hid (∀ i, i < n → SmRp (T i)) := hSA
  have HSD : Hid (∀ i, i < m → SmRp (U i)) := hSD
  clear hr3 hm hB2 HB1 hSA hSD
  go_wp2_with fail
  refine (toReplyS_any n T a cap _ hnA HSA.out (HA.out.below HB2.out)).mono ?_
  rintro e w3 ⟨rfl, hb3, ho3⟩
  have HB3 : Hid (Below w.heap.size w w3) := below_then HB2.out hb3
  have H3 : Hid (RpsAt w3 (some ⟨w2.heap.size, 0, none⟩) n T) := ho3.at
  clear hb3 ho3 HB2
  go_wp2_with fail
  refine (toReplyS_any m U d cap2 _ hnD HSD.out (HD.out.below HB3.out)).mono ?_
  rintro e w4 ⟨rfl, hb4, ho4⟩
  have HB4 : Hid (Below w.heap.size w w4) := below_then HB3.out hb4
  have H4 : Hid (RpsAt w4 (some ⟨w3.heap.size, 0, none⟩) m U) := ho4.at
  replace H3 : Hid (RpsAt w4 (some ⟨w2.heap.size, 0, none⟩) n T) := H3.out.below hb4
  clear hb4 ho4 HB3
  go_wp2_with fail
  refine (specSr_any n m T U _ _ n m _ hnA HSA.out HSD.out H3.out H4.out).mono ?_
  rintro e w5 ⟨rfl, hb5⟩
  have HB5 : Hid (Below w.heap.size w w5) := below_then HB4.out hb5
  clear hb5 HB4 H3 H4
  generalize hC : rsq n T m U = C
  have HCC : Hid (rsq n T m U = C) := hC
  clear hC
  go_wp2_with fail
  refine (toReplyS_any n T a cap _ hnA HSA.out (HA.out.below HB5.out)).mono ?_
  rintro e w6 ⟨rfl, hb6, ho6⟩
  have HB6 : Hid (Below w.heap.size w w6) := below_then HB5.out hb6
  have H6 : Hid (RpsAt w6 (some ⟨w5.heap.size, 0, none⟩) n T) := ho6.at
  clear hb6 ho6 HB5
  go_wp2_with fail
  refine (toReplyS_any m U d cap2 _ hnD HSD.out (HD.out.below HB6.out)).mono ?_
  rintro e w7 ⟨rfl, hb7, ho7⟩
  have HB7 : Hid (Below w.heap.size w w7) := below_then HB6.out hb7
  have H7 : Hid (RpsAt w7 (some ⟨w6.heap.size, 0, none⟩) m U) := ho7.at
  replace H6 : Hid (RpsAt w7 (some ⟨w5.heap.size, 0, none⟩) n T) := H6.out.below hb7
  clear hb7 ho7 HB6
  go_wp2_with fail
  refine (implSr_any n m T U _ _ n m _ hnA HSA.out HSD.out H6.out H7.out).mono ?_
  rintro e w8 ⟨rfl, hb8⟩
  rw [HCC.out]
  have HB8 : Hid (Below w.heap.size w w8) := below_then HB7.out hb8
  replace H6 : Hid (RpsAt w8 (some ⟨w5.heap.size, 0, none⟩) n T) := H6.out.below hb8
  replace H7 : Hid (RpsAt w8 (some ⟨w6.heap.size, 0, none⟩) m U) := H7.out.below hb8
  have hcc : (C != C) = false := by simp
  clear hb8 HB7 HCC
  go_wp2_with fail
  refine (toReplyS_any n T a cap _ hnA HSA.out (HA.out.below HB8.out)).mono ?_
  rintro e w9 ⟨rfl, hb9, ho9⟩
  have HB9 : Hid (Below w.heap.size w w9) := below_then HB8.out hb9
  have H9 : Hid (RpsAt w9 (some ⟨w8.heap.size, 0, none⟩) n T) := ho9.at
  replace H6 : Hid (RpsAt w9 (some ⟨w5.heap.size, 0, none⟩) n T) := H6.out.below hb9
  replace H7 : Hid (RpsAt w9 (some ⟨w6.heap.size, 0, none⟩) m U) := H7.out.below hb9
  clear hb9 ho9 HB8
  go_wp2_with fail
  refine (eqReplyS_any n T _ _ n n _ hnA HSA.out H6.out H9.out).mono ?_
  rintro e w10 ⟨rfl, hb10⟩
  have HB10 : Hid (Below w.heap.size w w10) := below_then HB9.out hb10
  replace H7 : Hid (RpsAt w10 (some ⟨w6.heap.size, 0, none⟩) m U) := H7.out.below hb10
  clear hb10 HB9 H6 H9
  go_wp2_with fail
  refine (toReplyS_any m U d cap2 _ hnD HSD.out (HD.out.below HB10.out)).mono ?_
  rintro e w11 ⟨rfl, hb11, ho11⟩
  have HB11 : Hid (Below w.heap.size w w11) := below_then HB10.out hb11
  have H11 : Hid (RpsAt w11 (some ⟨w10.heap.size, 0, none⟩) m U) := ho11.at
  replace H7 : Hid (RpsAt w11 (some ⟨w6.heap.size, 0, none⟩) m U) := H7.out.below hb11
  clear hb11 ho11 HB10
  go_wp2_with fail
  refine (eqReplyS_any m U _ _ m m _ hnD HSD.out H7.out H11.out).mono ?_
  rintro e w12 ⟨rfl, hb12⟩
  have HB12 : Hid (Below w.heap.size w w12) := below_then HB11.out hb12
  clear hb12
  go_wp2_with fail
  go_ret
  exact ⟨rfl, HB12.out⟩
end Go.Proofs.Ytenglcgkachomaa
