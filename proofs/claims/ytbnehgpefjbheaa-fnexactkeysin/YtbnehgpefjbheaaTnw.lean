/- impl.KeysIn. -/
import Derived.Test.YtbnehgpefjbheaaTnv
namespace Go.Proofs.Ytbnehgpefjbheaa
open Go.RowKit Go.Deep
set_option linter.unusedVariables false
set_option maxRecDepth 20000

theorem ky_start (w1 : World) (tb lb hb : Nat) : Ky w1 tb lb hb ((w1.alloc (.cells #[.slice none 0 0] 39)).alloc (.cells #[.func (.func 60) #[] #[.pointer (some ⟨lb, 0, none⟩), .pointer (some ⟨hb, 0, none⟩), .pointer (some ⟨w1.heap.size, 0, none⟩), .pointer (some ⟨w1.heap.size + 1, 0, none⟩), .pointer (some ⟨tb, 0, none⟩)]] 79)) [] (.slice none 0 0) :=
  ⟨below_then (below_new _ _) (below_new _ _), by simp, by simp [go_sem], fun i => by simp [go_sem], ⟨by simp [il], .inl ⟨rfl, rfl⟩⟩, by simp [go_sem]⟩
set_option maxHeartbeats 4000000 in
theorem implKi_any (t : Tr) (lo hi : Int) (a : Option Addr) (ca : Nat) (w : World) (hs : SmallT t) (h : NdsAt w a t.n t.T) :
    Calls Try.prog 28 #[.agg #[.int .i64 t.root, .slice a t.n ca], .int .i64 lo, .int .i64 hi] w (IRes (trF t) (fil lo hi (allK t.T (t.n + 1) t.root.toNat)) w) := by
  have HA : Hid (NdsAt w a t.n t.T) := h
  have HS : Hid (SmallT t) := hs
  have hmf : ∀ (fn : Fn) (first cap : Array Value) (w : World), (Instr.makeFunc fn first cap).run Try.prog w = .ok (.func fn first cap) w := fun _ _ _ _ => rfl
  have hsf : ∀ (q : Addr) (u : World) (fn : Fn) (first cap : Array Value) m, (store q (.func fn first cap) m).run Try.prog u = stored Try.prog u q (.func fn first cap) m := fun q u fn first cap m => run_store Try.prog u q _ m rfl
  clear h hs
  go_enter Try.func28, Try.ntmps28
  go_wp2_with fail
  rw [show w.heap.size + 1 + 1 = w.heap.size + 2 from rfl]
  rw [show w.heap.size + 2 + 1 = w.heap.size + 3 from rfl]
  obtain ⟨W, hW⟩ : ∃ y, y = (((w.alloc (.cells #[.int .i64 t.root, .slice a t.n ca] 29)).alloc (.cells #[.int .i64 lo] 2)).alloc (.cells #[.int .i64 hi] 2)).alloc (.cells #[.int .i64 0, .slice none 0 0] 41) := ⟨_, rfl⟩
  have b0 : W.cell? ⟨w.heap.size, 0, none⟩ = some (.int .i64 t.root) := by rw [hW]; simp [go_sem]
  have b1 : W.cell? ⟨w.heap.size, 1, none⟩ = some (.slice a t.n ca) := by rw [hW]; simp [go_sem]
  have b2 : W.cell? ⟨w.heap.size + 1, 0, none⟩ = some (.int .i64 lo) := by rw [hW]; simp [go_sem]
  have b3 : W.cell? ⟨w.heap.size + 2, 0, none⟩ = some (.int .i64 hi) := by rw [hW]; simp [go_sem]
  have r0 : W.cell? ⟨w.heap.size + 3, 0, none⟩ = some (.int .i64 0) := by rw [hW]; simp [go_sem]
  have r1 : W.cell? ⟨w.heap.size + 3, 1, none⟩ = some (.slice none 0 0) := by rw [hW]; simp [go_sem]
  have rf : ∀ i, W.frozen? ⟨w.heap.size + 3, i, none⟩ = false := fun i => by rw [hW]; simp [go_sem]
  have HB : Hid (Below w.heap.size w W) := by rw [hW]; exact below_then (below_then (below_then (below_new _ _) (below_new _ _)) (below_new _ _)) (below_new _ _)
  have hsz : W.heap.size = w.heap.size + 4 := by rw [hW]; simp
  rw [← hW]
  clear hW
  refine (implTf_any t a ca W HS.out (HA.out.below HB.out)).mono ?_
  rintro e w1 ⟨rfl, hb1⟩
  have HB1 : Hid (Below w.heap.size w w1) := below_then HB.out hb1
  have c0 := cell_below b0 hb1
  have c1 := cell_below b1 hb1
  have c2 := cell_below b2 hb1
  have c3 := cell_below b3 hb1
  have s0' := cell_below r0 hb1
  have s1' := cell_below r1 hb1
  have sf : ∀ i, w1.frozen? ⟨w.heap.size + 3, i, none⟩ = false := fun i => (hb1.frozen (p := ⟨_, i, none⟩) (by show w.heap.size + 3 < W.heap.size; omega)).trans (rf i)
  have HZ1 : Hid (w.heap.size + 4 ≤ w1.heap.size) := by have := hb1.size; show _ ≤ _; omega
  clear hb1 b0 b1 b2 b3 r0 r1 rf HB hsz
  by_cases hg : trF t = 0
  · obtain ⟨hn1, hn, hG, hr, hf⟩ := trF_good hg
    have HC : Hid (trF t = 0) := hg
    have hal := allK_len hg
    rw [hg]
    clear hg
    go_upto_region 7 with fail
    have HKS := ky_start w1 w.heap.size (w.heap.size + 1) (w.heap.size + 2)
    rcases HA.out.below HB1.out with h | ⟨b, off, rfl, hbl, hcc⟩
    · omega
    obtain ⟨q, hq⟩ : ∃ q : Nat, t.root = q := ⟨t.root.toNat, by omega⟩
    have htq : t.root.toNat = q := by omega
    rw [htq] at hf hal
    have HPE : Hid (fil lo hi (allK t.T (t.n + 1) t.root.toNat) = fil lo hi (allK t.T (t.n + 1) q)) := by rw [htq]; rfl
    generalize (w1.alloc (.cells #[.slice none 0 0] 39)).alloc (.cells #[(.func (.func 60) #[] #[.pointer (some ⟨w.heap.size + 1, 0, none⟩), .pointer (some ⟨w.heap.size + 2, 0, none⟩), .pointer (some ⟨w1.heap.size, 0, none⟩), .pointer (some ⟨w1.heap.size + 1, 0, none⟩), .pointer (some ⟨w.heap.size, 0, none⟩)])] 79) = W2 at *
    have HWK : Hid (Calls Try.prog 60 #[.pointer (some ⟨b, off + q * 3, none⟩), .pointer (some ⟨w.heap.size + 1, 0, none⟩), .pointer (some ⟨w.heap.size + 2, 0, none⟩), .pointer (some ⟨w1.heap.size, 0, none⟩), .pointer (some ⟨w1.heap.size + 1, 0, none⟩), .pointer (some ⟨w.heap.size, 0, none⟩)] W2.drew (KyP w1 w.heap.size (w.heap.size + 1) (w.heap.size + 2) (fil lo hi (allK t.T (t.n + 1) q)))) :=
      keysI w1 w.heap.size (w.heap.size + 1) (w.heap.size + 2) t.n ca b off t.T lo hi hn hG c1 c2 c3 hbl hcc (t.n + 1) q [] (.slice none 0 0) W2.drew HKS.drewn (by omega) hf (by simp; omega)
    have d0 := cell_below c0 HKS.below
    have d1 := cell_below c1 HKS.below
    have d2 := HKS.fn
    rw [hq] at d0
    have HD0 : Hid (w1.cell? ⟨w.heap.size, 0, none⟩ = some (.int .i64 (q : Int))) := by rw [← hq]; exact c0
    have HD1 : Hid (w1.cell? ⟨w.heap.size, 1, none⟩ = some (.slice (some ⟨b, off, none⟩) t.n ca)) := c1
    have hqi : (q : Int) < (t.n : Int) := by omega
    have hq0 : (0 : Int) ≤ (q : Int) := by omega
    have HR0 : Hid (w1.cell? ⟨w.heap.size + 3, 0, none⟩ = some (.int .i64 0)) := s0'
    have HR1 : Hid (w1.cell? ⟨w.heap.size + 3, 1, none⟩ = some (.slice none 0 0)) := s1'
    have HRF : Hid (∀ i, w1.frozen? ⟨w.heap.size + 3, i, none⟩ = false) := sf
    clear hmf hsf HKS hG hr hf hq htq hcc hal c0 c1 c2 c3 s0' s1' sf
    generalize fil lo hi (allK t.T (t.n + 1) q) = P at *
    go_region_held3 (fun w' => w'.cell? ⟨w1.heap.size + 1, 0, none⟩ = some (.func (.func 60) #[] #[.pointer (some ⟨w.heap.size + 1, 0, none⟩), .pointer (some ⟨w.heap.size + 2, 0, none⟩), .pointer (some ⟨w1.heap.size, 0, none⟩), .pointer (some ⟨w1.heap.size + 1, 0, none⟩), .pointer (some ⟨w.heap.size, 0, none⟩)]) ∧ w'.cell? ⟨w.heap.size, 1, none⟩ = some (.slice (some ⟨b, off, none⟩) t.n ca) ∧ w'.cell? ⟨w.heap.size, 0, none⟩ = some (.int .i64 q)) (go_keep)
      (first | ((with_reducible refine HWK.out.mono ?_); intro e w4 hpost; unfold KyP at hpost; obtain ⟨he4, v4, hW4⟩ := hpost; subst he4; have HW4 : Hid (Ky w1 w.heap.size (w.heap.size + 1) (w.heap.size + 2) w4 P v4) := hW4; have u0 := hW4.fn; have u1 := cell_below HD1.out hW4.below; have u2 := cell_below HD0.out hW4.below; have u3 := hW4.lst; clear hW4))
    obtain ⟨pa, pc, rfl, ho⟩ := ownI_of_row HW4.out.own
    have HB4 : Hid (Below w.heap.size w w4) := below_then HB1.out HW4.out.below
    have HO : Hid (OwnI w4 (w1.heap.size + 2) w4.heap.size pa P.length (zI P)) := ho
    have x0 := cell_below HR0.out HW4.out.below
    have x1 := cell_below HR1.out HW4.out.below
    have xf : ∀ i, w4.frozen? ⟨w.heap.size + 3, i, none⟩ = false := fun i => (HW4.out.below.frozen (p := ⟨_, i, none⟩) (by have := HZ1.out; show w.heap.size + 3 < w1.heap.size; omega)).trans (HRF.out i)
    have HEND : Hid (∀ w3, Writes (w.heap.size + 3) (w.heap.size + 4) w4 w3 → w3.heap.size = w4.heap.size → IRes (trF t) (fil lo hi (allK t.T (t.n + 1) t.root.toNat)) w (.returned (.agg #[.int .i64 0, .slice pa P.length pc])) w3) := fun w3 h1 h2 => by
      have hz := HZ1.out
      have hz4 := HW4.out.size
      rw [HPE.out]
      exact ires_yes HC.out (h1.below HB4.out (by omega)) (by rw [h2]; exact (HO.out.writes h1 (.inr (by omega))).wide (by omega) (Nat.le_refl _) (by omega))
    clear ho
    go_wp2_with fail
    refine bodyPost_ret (v := .agg #[.int .i64 0, .slice pa P.length pc]) (by simp [results, Try.results28, go_sem, x0, x1]) rfl ?_
    refine HEND.out _ ?_ (by simp [World.setCell])
    repeat (first | with_reducible exact Writes.refl _ _ _ | with_reducible refine Writes.setCell ?_ (by first | omega | (simp <;> omega)) (by first | omega | (simp <;> omega)) _)
  · have hne : (trF t != 0) = true := by simp [hg]
    obtain ⟨tc, htc⟩ : ∃ x, x = trF t := ⟨_, rfl⟩
    have HC : Hid (trF t = tc ∧ tc ≠ 0) := ⟨htc.symm, by rw [htc]; exact hg⟩
    rw [← htc] at hne ⊢
    clear hg htc hmf hsf
    go_wp2_with fail
    refine bodyPost_ret (v := .agg #[.int .i64 tc, .slice none 0 0]) (by simp [results, Try.results28, go_sem, s0', s1']) rfl ?_
    refine ires_no HC.out ?_
    repeat (first | with_reducible exact HB1.out | with_reducible refine Below.setCell ?_ (by first | omega | (simp <;> omega)) _)
end Go.Proofs.Ytbnehgpefjbheaa
