/- Answers of pages: equal, marked, held; spec.ImagesOf. -/
import Derived.Test.YtldnfiadafmomaaXid
import Derived.Test.YtldnfiadafmomaaDe
import Derived.Test.YtldnfiadafmomaaDn
namespace Go.Proofs.Ytldnfiadafmomaa
open Go.RowKit Go.Deep
set_option linter.unusedVariables false
set_option maxRecDepth 20000

def L48 (_ : Nat) : Nat := 48
theorem sumL_48 : ∀ n, sumL (fun _ => 48) n = n * 48
  | 0 => by simp [sumL]
  | n + 1 => by simp only [sumL, sumL_48 n]; omega
theorem eqPartsResult_same (c : Int) (N : Nat) (Z : Nat → Nat → Int) (a a' : Option Addr) (cap cap' : Nat) (w : World) (hn : N ≤ 64) (h : PagesAt w a N (fun _ => 48) Z) (h' : PagesAt w a' N (fun _ => 48) Z) :
    Calls Try.prog 8 #[.agg #[.int .i64 c, .slice a N cap], .agg #[.int .i64 c, .slice a' N cap']] w fun e w' => e = .returned (.bool true) ∧ Below w.heap.size w w' := by
  have hb0 : ∀ o1 o2, Below w.heap.size w ((w.alloc o1).alloc o2) := fun o1 o2 => ((Below.refl _ _).alloc (Nat.le_refl _) _).alloc (by simp) _
  have H1 : Hid (PagesAt w a N (fun _ => 48) Z) := h
  have H2 : Hid (PagesAt w a' N (fun _ => 48) Z) := h'
  clear h h'
  go_enter Try.func8, Try.ntmps8
  go_wp2_with fail
  refine (eqByteSS_any N (fun _ => 48) Z a a' cap cap' _ (by omega) (fun i hi => by omega) (H1.out.below (hb0 _ _)) (H2.out.below (hb0 _ _))).mono ?_
  rintro e w1 ⟨rfl, hb1⟩
  go_wp2_with fail
  go_ret
  exact ⟨rfl, below_then (hb0 _ _) hb1⟩
theorem markPartsResult_any (c : Int) (N : Nat) (Z : Nat → Nat → Int) (a : Option Addr) (cap lo hi : Nat) (w : World) (hn : N ≤ 64) (h : OwnP w lo hi a N (fun _ => 48) Z) :
    Calls Try.prog 11 #[.agg #[.int .i64 c, .slice a N cap], .int .i64 1] w fun e w' => e = .returned (.int .i64 (1 + (N * 48 : Nat))) ∧ Writes lo hi w w' ∧ OwnP w' lo hi a N (fun _ => 48) (mZ 1 (fun _ => 48)) := by
  have HO : Hid (OwnP w lo hi a N (fun _ => 48) Z) := h
  have HQ : Hid (sumL (fun _ => 48) N = N * 48) := sumL_48 N
  clear h
  go_enter Try.func11, Try.ntmps11
  go_wp2_with fail
  refine (markByteSS_any N (fun _ => 48) Z a cap lo hi 1 _ (by omega) (by rw [HQ.out]; omega) (by omega) (by omega) (HO.out.below (below_new _ _))).mono ?_
  rw [HQ.out]
  rintro e w1 ⟨rfl, hw, ho⟩
  go_wp2_with fail
  go_ret
  exact ⟨rfl, (Writes.of_below (below_new _ _)).trans hw, ho⟩
theorem heldPartsResult_any (c : Int) (N : Nat) (a : Option Addr) (cap : Nat) (w : World) (hn : N ≤ 64) (h : PagesAt w a N (fun _ => 48) (mZ 1 (fun _ => 48))) :
    Calls Try.prog 12 #[.agg #[.int .i64 c, .slice a N cap], .int .i64 1] w fun e w' => e = .returned (.int .i64 (1 + (N * 48 : Nat))) ∧ Below w.heap.size w w' := by
  have HO : Hid (PagesAt w a N (fun _ => 48) (mZ 1 (fun _ => 48))) := h
  have HQ : Hid (sumL (fun _ => 48) N = N * 48) := sumL_48 N
  have hneg : ¬ ((1 : Int) + ((N * 48 : Nat) : Int) < 0) := by omega
  clear h
  go_enter Try.func12, Try.ntmps12
  go_wp2_with fail
  refine (heldByteSS_any N (fun _ => 48) a cap 1 _ (by omega) (by rw [HQ.out]; omega) (by omega) (by omega) (HO.out.below (below_new _ _))).mono ?_
  rw [HQ.out]
  rintro e w1 ⟨rfl, hw1⟩
  rw [hw1]
  clear hw1
  go_wp2_with fail
  go_ret
  exact ⟨rfl, below_new _ _⟩
set_option maxHeartbeats 4000000 in
theorem specIo_any (D : Dk) (x : Int) (a a' : Option Addr) (cap cap' : Nat) (w : World) (hs : Small D) (h : DiskAt w a a' D) :
    Calls Try.prog 5 #[.agg #[.slice a D.n cap, .slice a' D.m cap'], .int .i64 x] w (PtRes (ioC D x) (ioN D x) (ioZ D x) w) := by
  have hb0 : ∀ o1 o2, Below w.heap.size w ((w.alloc o1).alloc o2) := fun o1 o2 => ((Below.refl _ _).alloc (Nat.le_refl _) _).alloc (by simp) _
  have HA : Hid (DiskAt w a a' D) := h
  have HS : Hid (Small D) := hs
  have hn8 := hs.n
  clear h hs
  go_enter Try.func5, Try.ntmps5
  go_wp2_with fail
  refine (specDf_any D a a' cap cap' _ HS.out (HA.out.below (hb0 _ _))).mono ?_
  rintro e w1 ⟨rfl, hb1⟩
  obtain ⟨hcc, hff⟩ := bcell hb1
  have hz1 : w.heap.size + 2 ≤ w1.heap.size := by have := hb1.size; simp at this; omega
  have q0 : w1.cell? ⟨w.heap.size, 0, none⟩ = some (.slice a D.n cap) := by rw [hcc _ _ (by simp <;> omega)]; simp [go_sem]
  have q1 : w1.cell? ⟨w.heap.size, 1, none⟩ = some (.slice a' D.m cap') := by rw [hcc _ _ (by simp <;> omega)]; simp [go_sem]
  have r0 : w1.cell? ⟨w.heap.size + 1, 0, none⟩ = some (.int .i64 0) := by rw [hcc _ _ (by simp <;> omega)]; simp [go_sem]
  have r1 : w1.cell? ⟨w.heap.size + 1, 1, none⟩ = some (.slice none 0 0) := by rw [hcc _ _ (by simp <;> omega)]; simp [go_sem]
  have fz : ∀ i, w1.frozen? ⟨w.heap.size + 1, i, none⟩ = false := fun i => by rw [hff _ _ (by simp <;> omega)]; simp [go_sem]
  have HB1 : Hid (Below w.heap.size w w1) := below_then (hb0 _ _) hb1
  clear hcc hff hb1 hb0
  by_cases h0 : df D = 0
  case neg =>
    have hd : (df D != 0) = true := by simpa using h0
    have HX : Hid (∀ w', Below w.heap.size w w' → PtRes (ioC D x) (ioN D x) (ioZ D x) w (.returned (.agg #[.int .i64 (df D), .slice none 0 0])) w') := fun w' hb => by
      obtain ⟨e1, e2⟩ := io_bad (D := D) (x := x) (c := df D) (by unfold ioC; rw [if_neg h0]) h0
      rw [e1, e2]; exact ptres_bad hb
    clear h0
    generalize df D = c at *
    go_wp2_with fail
    refine bodyPost_ret (v := .agg #[.int .i64 c, .slice none 0 0]) (by simp [results, Try.results5, go_sem, *]) rfl ?_
    refine HX.out _ ?_
    repeat (first | with_reducible exact HB1.out | with_reducible refine Below.setCell ?_ (by first | omega | (simp <;> omega)) _)
  have hG := goodD_of h0
  have H0 : Hid (df D = 0) := h0
  rw [h0]
  clear h0
  cases hx : inB x 0 ((D.n : Int) - 1)
  · have HX : Hid (∀ w', Below w.heap.size w w' → PtRes (ioC D x) (ioN D x) (ioZ D x) w (.returned (.agg #[.int .i64 3, .slice none 0 0])) w') := fun w' hb => by
      obtain ⟨e1, e2⟩ := io_bad (D := D) (x := x) (c := 3) (by unfold ioC; rw [if_pos H0.out, if_neg (by rw [hx]; decide)]) (by decide)
      rw [e1, e2]; exact ptres_bad hb
    have HXB : Hid (inB x 0 ((D.n : Int) - 1) = false) := hx
    clear hx
    go_wp2_with fail
    refine (l2Page_any w.heap.size x D.n a cap _ hn8 q0).mono ?_
    rw [HXB.out]
    rintro e w2 ⟨rfl, hw2⟩
    rw [hw2]
    clear hw2 w2
    go_wp2_with fail
    refine bodyPost_ret (v := .agg #[.int .i64 3, .slice none 0 0]) (by simp [results, Try.results5, go_sem, *]) rfl ?_
    refine HX.out _ ?_
    repeat (first | with_reducible exact HB1.out | with_reducible refine Below.setCell ?_ (by first | omega | (simp <;> omega)) _)
  · have hxx := inB_iff.1 hx
    obtain ⟨k, rfl⟩ : ∃ k : Nat, x = (k : Int) := ⟨x.toNat, by omega⟩
    have hkn : k < D.n := by omega
    have HXB : Hid (inB (k : Int) 0 ((D.n : Int) - 1) = true) := hx
    have HR : Hid (ioC D (k : Int) = 0 ∧ ioN D (k : Int) = imN D k D.m ∧ ioZ D (k : Int) = imZ D k) := by
      have e : ioC D (k : Int) = 0 := by unfold ioC; rw [if_pos H0.out, if_pos hx]
      exact ⟨e, by unfold ioN; rw [if_pos e, Int.toNat_natCast], by unfold ioZ; rw [Int.toNat_natCast]⟩
    clear hx hxx
    go_wp2_with fail
    refine (l2Page_any w.heap.size (k : Int) D.n a cap _ hn8 q0).mono ?_
    rw [HXB.out]
    rintro e w2 ⟨rfl, hw2⟩
    rw [hw2]
    clear hw2 w2
    go_wp2_with fail
    refine (l14Images_any D k w.heap.size a a' cap cap' w1 hG hkn q0 q1 (HA.out.below HB1.out)).mono ?_
    rintro e w4 ⟨v4, rfl, hb4, ho4⟩
    obtain ⟨a4, c4, rfl, _, hp4⟩ := ho4.own
    obtain ⟨nn, HNN⟩ : ∃ nn, Hid (imN D k D.m = nn) := ⟨_, rfl⟩
    rw [HNN.out] at hp4 ⊢
    have HB4 : Hid (Below w1.heap.size w1 w4) := hb4
    have HP4 : Hid (OwnP w4 w1.heap.size w4.heap.size a4 nn (fun _ => 48) (imZ D k)) := hp4
    have hz4 := hb4.size
    have t0 := cell_below r0 HB4.out
    have t1 := cell_below r1 HB4.out
    have tf : ∀ i, w4.frozen? ⟨w.heap.size + 1, i, none⟩ = false := fun i => (HB4.out.frozen (p := ⟨w.heap.size + 1, i, none⟩) (by show w.heap.size + 1 < w1.heap.size; omega)).trans (fz i)
    clear hb4 ho4 hp4 q0 q1 r0 r1 fz
    go_wp2_with fail
    refine bodyPost_ret (v := .agg #[.int .i64 0, .slice a4 nn c4]) (by simp [results, Try.results5, go_sem, *]) rfl ?_
    rw [HR.out.1, HR.out.2.1, HR.out.2.2, HNN.out]
    have HW : Hid (Writes (w.heap.size + 1) (w.heap.size + 2) w4 ((w4.setCell ⟨w.heap.size + 1, 0, none⟩ (.int .i64 0)).setCell ⟨w.heap.size + 1, 1, none⟩ (.slice a4 nn c4))) := ((Writes.refl _ _ _).setCell (p := ⟨w.heap.size + 1, 0, none⟩) (Nat.le_refl _) (by show w.heap.size + 1 < _; omega) _).setCell (p := ⟨w.heap.size + 1, 1, none⟩) (Nat.le_refl _) (by show w.heap.size + 1 < _; omega) _
    refine ⟨a4, c4, rfl, Writes.below (below_then HB1.out HB4.out) HW.out (by omega), ?_⟩
    have hq := (HP4.out.writes HW.out (.inr (by omega))).wide (lo' := w.heap.size) (hi' := w4.heap.size) (by omega) (Nat.le_refl _) (by simp)
    simpa using hq
end Go.Proofs.Ytldnfiadafmomaa
