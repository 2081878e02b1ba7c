/- HasKey and DepthOf, both sides. -/
import Derived.Test.YtbnehgpefjbheaaTnp
namespace Go.Proofs.Ytbnehgpefjbheaa
open Go.RowKit Go.Deep
set_option linter.unusedVariables false
set_option maxRecDepth 20000

def hkB (t : Tr) (key : Int) : Bool := decide (trF t = 0) && hasB t key
def dpV (t : Tr) : Int := if trF t = 0 then ((pth t.T 0 (t.n + 1) t.root.toNat).length : Int) else 0
set_option maxHeartbeats 2000000 in
theorem specHk_any (t : Tr) (key : Int) (a : Option Addr) (ca : Nat) (w : World) (hs : SmallT t) (h : NdsAt w a t.n t.T) :
    Calls Try.prog 16 #[.agg #[.int .i64 t.root, .slice a t.n ca], .int .i64 key] w fun e w' => e = .returned (.bool (hkB t key)) ∧ Below w.heap.size w w' := by
  have HA : Hid (NdsAt w a t.n t.T) := h
  have HS : Hid (SmallT t) := hs
  clear h hs
  go_enter Try.func16, Try.ntmps16
  go_wp2_with fail
  obtain ⟨W, hW⟩ : ∃ y, y = w.alloc (.cells #[.int .i64 t.root, .slice a t.n ca] 29) := ⟨_, rfl⟩
  have b0 : W.cell? ⟨w.heap.size, 0, none⟩ = some (.int .i64 t.root) := by rw [hW]; simp [go_sem]
  have b1 : W.cell? ⟨w.heap.size, 1, none⟩ = some (.slice a t.n ca) := by rw [hW]; simp [go_sem]
  have HB : Hid (Below w.heap.size w W) := by rw [hW]; exact below_new _ _
  rw [← hW]
  clear hW
  refine (specTf_any t a ca W HS.out (HA.out.below HB.out)).mono ?_
  rintro e w1 ⟨rfl, hb1⟩
  have HB1 : Hid (Below w.heap.size w w1) := below_then HB.out hb1
  have c0 := cell_below b0 hb1
  have c1 := cell_below b1 hb1
  clear hb1 b0 b1 HB
  by_cases hg : trF t = 0
  · have HE : Hid (hkB t key = hasB t key) := by show hkB t key = _; unfold hkB; rw [hg]; rfl
    have HG : Hid (trF t = 0) := hg
    rw [hg]
    clear hg
    go_wp2_with fail
    refine (l4Has_any t key w.heap.size ca a w1 HG.out c0 c1 (HA.out.below HB1.out)).mono ?_
    rintro e w2 ⟨rfl, hb2⟩
    have HB2 : Hid (Below w.heap.size w w2) := below_then HB1.out hb2
    clear hb2
    go_wp2_with fail
    go_ret
    exact ⟨ret_bool HE.out.symm, HB2.out⟩
  · have HE : Hid (hkB t key = false) := by show hkB t key = _; unfold hkB; simp [hg]
    have hne : (trF t == 0) = false := by simp [hg]
    clear hg
    generalize trF t = tc at *
    go_wp2_with fail
    go_ret
    exact ⟨ret_bool HE.out.symm, HB1.out⟩
set_option maxHeartbeats 2000000 in
theorem implHk_any (t : Tr) (key : Int) (a : Option Addr) (ca : Nat) (w : World) (hs : SmallT t) (h : NdsAt w a t.n t.T) :
    Calls Try.prog 17 #[.agg #[.int .i64 t.root, .slice a t.n ca], .int .i64 key] w fun e w' => e = .returned (.bool (hkB t key)) ∧ Below w.heap.size w w' := by
  have HA : Hid (NdsAt w a t.n t.T) := h
  have HS : Hid (SmallT t) := hs
  clear h hs
  go_enter Try.func17, Try.ntmps17
  go_wp2_with fail
  obtain ⟨W, hW⟩ : ∃ y, y = w.alloc (.cells #[.int .i64 t.root, .slice a t.n ca] 29) := ⟨_, rfl⟩
  have b0 : W.cell? ⟨w.heap.size, 0, none⟩ = some (.int .i64 t.root) := by rw [hW]; simp [go_sem]
  have b1 : W.cell? ⟨w.heap.size, 1, none⟩ = some (.slice a t.n ca) := by rw [hW]; simp [go_sem]
  have HB : Hid (Below w.heap.size w W) := by rw [hW]; exact below_new _ _
  rw [← hW]
  clear hW
  refine (implTf_any t a ca W HS.out (HA.out.below HB.out)).mono ?_
  rintro e w1 ⟨rfl, hb1⟩
  have HB1 : Hid (Below w.heap.size w w1) := below_then HB.out hb1
  have c0 := cell_below b0 hb1
  have c1 := cell_below b1 hb1
  clear hb1 b0 b1 HB
  by_cases hg : trF t = 0
  · have HE : Hid (hkB t key = hasB t key) := by show hkB t key = _; unfold hkB; rw [hg]; rfl
    have HG : Hid (trF t = 0) := hg
    rw [hg]
    clear hg
    go_wp2_with fail
    refine (holds_any t key w.heap.size ca a w1 HG.out c0 c1 (HA.out.below HB1.out)).mono ?_
    rintro e w2 ⟨rfl, hb2⟩
    have HB2 : Hid (Below w.heap.size w w2) := below_then HB1.out hb2
    clear hb2
    go_wp2_with fail
    go_ret
    exact ⟨ret_bool HE.out.symm, HB2.out⟩
  · have HE : Hid (hkB t key = false) := by show hkB t key = _; unfold hkB; simp [hg]
    have hne : (trF t == 0) = false := by simp [hg]
    clear hg
    generalize trF t = tc at *
    go_wp2_with fail
    go_ret
    exact ⟨ret_bool HE.out.symm, HB1.out⟩
theorem eqIntResult_same (c v : Int) (w : World) : Calls Try.prog 20 #[.agg #[.int .i64 c, .int .i64 v], .agg #[.int .i64 c, .int .i64 v]] w fun e w' => e = .returned (.bool true) ∧ Below w.heap.size w w' := by
  have h1 : (c != c) = false := by simp
  have h2 : (v != v) = false := by simp
  go_enter Try.func20, Try.ntmps20
  go_wp2_with fail
  go_ret
  exact ⟨rfl, ((Below.refl _ _).alloc (Nat.le_refl _) _).alloc (by simp) _⟩
set_option maxHeartbeats 2000000 in
theorem specDp_any (t : Tr) (a : Option Addr) (ca : Nat) (w : World) (hs : SmallT t) (h : NdsAt w a t.n t.T) :
    Calls Try.prog 18 #[.agg #[.int .i64 t.root, .slice a t.n ca]] w fun e w' => e = .returned (.agg #[.int .i64 (trF t), .int .i64 (dpV t)]) ∧ Below w.heap.size w w' := by
  have HA : Hid (NdsAt w a t.n t.T) := h
  have HS : Hid (SmallT t) := hs
  clear h hs
  go_enter Try.func18, Try.ntmps18
  go_wp2_with fail
  obtain ⟨W, hW⟩ : ∃ y, y = (w.alloc (.cells #[.int .i64 t.root, .slice a t.n ca] 29)).alloc (.cells #[.int .i64 0, .int .i64 0] 36) := ⟨_, rfl⟩
  have b0 : W.cell? ⟨w.heap.size, 0, none⟩ = some (.int .i64 t.root) := by rw [hW]; simp [go_sem]
  have b1 : W.cell? ⟨w.heap.size, 1, none⟩ = some (.slice a t.n ca) := by rw [hW]; simp [go_sem]
  have r0 : W.cell? ⟨w.heap.size + 1, 0, none⟩ = some (.int .i64 0) := by rw [hW]; simp [go_sem]
  have r1 : W.cell? ⟨w.heap.size + 1, 1, none⟩ = some (.int .i64 0) := by rw [hW]; simp [go_sem]
  have rf : ∀ i, W.frozen? ⟨w.heap.size + 1, i, none⟩ = false := fun i => by rw [hW]; simp [go_sem]
  have HB : Hid (Below w.heap.size w W) := by rw [hW]; exact below_then (below_new _ _) (below_new _ _)
  have hsz : W.heap.size = w.heap.size + 2 := by rw [hW]; simp
  rw [← hW]
  clear hW
  refine (specTf_any t a ca W HS.out (HA.out.below HB.out)).mono ?_
  rintro e w1 ⟨rfl, hb1⟩
  have HB1 : Hid (Below w.heap.size w w1) := below_then HB.out hb1
  have c0 := cell_below b0 hb1
  have c1 := cell_below b1 hb1
  have s0' := cell_below r0 hb1
  have s1' := cell_below r1 hb1
  have sf : ∀ i, w1.frozen? ⟨w.heap.size + 1, i, none⟩ = false := fun i => (hb1.frozen (p := ⟨_, i, none⟩) (by show w.heap.size + 1 < W.heap.size; omega)).trans (rf i)
  have HZ1 : Hid (w.heap.size + 2 ≤ w1.heap.size) := by have := hb1.size; show _ ≤ _; omega
  clear hb1 b0 b1 r0 r1 rf HB hsz
  by_cases hg : trF t = 0
  · obtain ⟨hn1, hn, hG, hr, hf⟩ := trF_good hg
    have HW : Hid (Calls Try.prog 53 #[.pointer (some ⟨w.heap.size, 0, none⟩), .int .i64 0] w1 (IAn (pth t.T 0 (t.n + 1) t.root.toNat) w1)) := l4Path_any t 0 w.heap.size ca a w1 hn1 hn hG hr.1 hr.2 hf c0 c1 (HA.out.below HB1.out)
    have HE : Hid (dpV t = ((pth t.T 0 (t.n + 1) t.root.toNat).length : Int)) := by show dpV t = _; unfold dpV; rw [if_pos hg]
    have HG : Hid (trF t = 0) := hg
    rw [hg]
    clear hg hG hr hf hn1 hn
    generalize pth t.T 0 (t.n + 1) t.root.toNat = P at *
    go_wp2_with fail
    refine HW.out.mono ?_
    intro e w2 hpost
    unfold IAn at hpost
    obtain ⟨pa, pc, he, hb2, -⟩ := hpost
    subst he
    have HB2 : Hid (Below w.heap.size w w2) := below_then HB1.out hb2
    have x0 := cell_below s0' hb2
    have x1 := cell_below s1' hb2
    have xf : ∀ i, w2.frozen? ⟨w.heap.size + 1, i, none⟩ = false := fun i => (hb2.frozen (p := ⟨_, i, none⟩) (by have := HZ1.out; show w.heap.size + 1 < w1.heap.size; omega)).trans (sf i)
    clear hb2 s0' s1' sf c0 c1
    go_wp2_with fail
    refine bodyPost_ret (v := .agg #[.int .i64 0, .int .i64 (P.length : Int)]) (by simp [results, Try.results18, go_sem, x0, x1]) rfl ⟨by rw [HG.out, HE.out], ?_⟩
    repeat (first | with_reducible exact HB2.out | with_reducible refine Below.setCell ?_ (by first | omega | (simp <;> omega)) _)
  · have HE : Hid (dpV t = 0) := by show dpV t = _; unfold dpV; rw [if_neg hg]
    have hne : (trF t != 0) = true := by simp [hg]
    obtain ⟨tc, htc⟩ : ∃ x, x = trF t := ⟨_, rfl⟩
    have HTC : Hid (trF t = tc) := htc.symm
    rw [← htc] at hne ⊢
    clear hg htc
    go_wp2_with fail
    refine bodyPost_ret (v := .agg #[.int .i64 tc, .int .i64 0]) (by simp [results, Try.results18, go_sem, s0', s1']) rfl ⟨by rw [HTC.out, HE.out], ?_⟩
    repeat (first | with_reducible exact HB1.out | with_reducible refine Below.setCell ?_ (by first | omega | (simp <;> omega)) _)
set_option maxHeartbeats 2000000 in
theorem implDp_any (t : Tr) (a : Option Addr) (ca : Nat) (w : World) (hs : SmallT t) (h : NdsAt w a t.n t.T) :
    Calls Try.prog 19 #[.agg #[.int .i64 t.root, .slice a t.n ca]] w fun e w' => e = .returned (.agg #[.int .i64 (trF t), .int .i64 (dpV t)]) ∧ Below w.heap.size w w' := by
  have HA : Hid (NdsAt w a t.n t.T) := h
  have HS : Hid (SmallT t) := hs
  clear h hs
  go_enter Try.func19, Try.ntmps19
  go_wp2_with fail
  obtain ⟨W, hW⟩ : ∃ y, y = (w.alloc (.cells #[.int .i64 t.root, .slice a t.n ca] 29)).alloc (.cells #[.int .i64 0, .int .i64 0] 36) := ⟨_, rfl⟩
  have b0 : W.cell? ⟨w.heap.size, 0, none⟩ = some (.int .i64 t.root) := by rw [hW]; simp [go_sem]
  have b1 : W.cell? ⟨w.heap.size, 1, none⟩ = some (.slice a t.n ca) := by rw [hW]; simp [go_sem]
  have r0 : W.cell? ⟨w.heap.size + 1, 0, none⟩ = some (.int .i64 0) := by rw [hW]; simp [go_sem]
  have r1 : W.cell? ⟨w.heap.size + 1, 1, none⟩ = some (.int .i64 0) := by rw [hW]; simp [go_sem]
  have rf : ∀ i, W.frozen? ⟨w.heap.size + 1, i, none⟩ = false := fun i => by rw [hW]; simp [go_sem]
  have HB : Hid (Below w.heap.size w W) := by rw [hW]; exact below_then (below_new _ _) (below_new _ _)
  have hsz : W.heap.size = w.heap.size + 2 := by rw [hW]; simp
  rw [← hW]
  clear hW
  refine (implTf_any t a ca W HS.out (HA.out.below HB.out)).mono ?_
  rintro e w1 ⟨rfl, hb1⟩
  have HB1 : Hid (Below w.heap.size w w1) := below_then HB.out hb1
  have c0 := cell_below b0 hb1
  have c1 := cell_below b1 hb1
  have s0' := cell_below r0 hb1
  have s1' := cell_below r1 hb1
  have sf : ∀ i, w1.frozen? ⟨w.heap.size + 1, i, none⟩ = false := fun i => (hb1.frozen (p := ⟨_, i, none⟩) (by show w.heap.size + 1 < W.heap.size; omega)).trans (rf i)
  have HZ1 : Hid (w.heap.size + 2 ≤ w1.heap.size) := by have := hb1.size; show _ ≤ _; omega
  clear hb1 b0 b1 r0 r1 rf HB hsz
  by_cases hg : trF t = 0
  · obtain ⟨hn1, hn, hG, hr, hf⟩ := trF_good hg
    have HW : Hid (Calls Try.prog 54 #[.pointer (some ⟨w.heap.size, 0, none⟩), .int .i64 0] w1 (IAn (pth t.T 0 (t.n + 1) t.root.toNat) w1)) := wayTo_any t 0 w.heap.size ca a w1 hn1 hn hG hr.1 hr.2 hf c0 c1 (HA.out.below HB1.out)
    have HE : Hid (dpV t = ((pth t.T 0 (t.n + 1) t.root.toNat).length : Int)) := by show dpV t = _; unfold dpV; rw [if_pos hg]
    have HG : Hid (trF t = 0) := hg
    rw [hg]
    clear hg hG hr hf hn1 hn
    generalize pth t.T 0 (t.n + 1) t.root.toNat = P at *
    go_wp2_with fail
    refine HW.out.mono ?_
    intro e w2 hpost
    unfold IAn at hpost
    obtain ⟨pa, pc, he, hb2, -⟩ := hpost
    subst he
    have HB2 : Hid (Below w.heap.size w w2) := below_then HB1.out hb2
    have x0 := cell_below s0' hb2
    have x1 := cell_below s1' hb2
    have xf : ∀ i, w2.frozen? ⟨w.heap.size + 1, i, none⟩ = false := fun i => (hb2.frozen (p := ⟨_, i, none⟩) (by have := HZ1.out; show w.heap.size + 1 < w1.heap.size; omega)).trans (sf i)
    clear hb2 s0' s1' sf c0 c1
    go_wp2_with fail
    refine bodyPost_ret (v := .agg #[.int .i64 0, .int .i64 (P.length : Int)]) (by simp [results, Try.results19, go_sem, x0, x1]) rfl ⟨by rw [HG.out, HE.out], ?_⟩
    repeat (first | with_reducible exact HB2.out | with_reducible refine Below.setCell ?_ (by first | omega | (simp <;> omega)) _)
  · have HE : Hid (dpV t = 0) := by show dpV t = _; unfold dpV; rw [if_neg hg]
    have hne : (trF t != 0) = true := by simp [hg]
    obtain ⟨tc, htc⟩ : ∃ x, x = trF t := ⟨_, rfl⟩
    have HTC : Hid (trF t = tc) := htc.symm
    rw [← htc] at hne ⊢
    clear hg htc
    go_wp2_with fail
    refine bodyPost_ret (v := .agg #[.int .i64 tc, .int .i64 0]) (by simp [results, Try.results19, go_sem, s0', s1']) rfl ⟨by rw [HTC.out, HE.out], ?_⟩
    repeat (first | with_reducible exact HB1.out | with_reducible refine Below.setCell ?_ (by first | omega | (simp <;> omega)) _)
end Go.Proofs.Ytbnehgpefjbheaa
