/- PathTo, both sides. -/
import Derived.Test.YtbnehgpefjbheaaTnp
namespace Go.Proofs.Ytbnehgpefjbheaa
open Go.RowKit Go.Deep
set_option linter.unusedVariables false
set_option maxRecDepth 20000

/-- The fault of a tree and a key. -/
def ptC (t : Tr) (key : Int) : Int := if trF t ≠ 0 then trF t else if inB key 0 10000 = true then 0 else 3
theorem ires_no {c d : Int} {zs : List Int} {w w' : World} (h : c = d ∧ d ≠ 0) (hb : Below w.heap.size w w') : IRes c zs w (.returned (.agg #[.int .i64 d, .slice none 0 0])) w' := by
  obtain ⟨rfl, h2⟩ := h
  exact ires_bad hb h2
theorem ires_yes {c : Int} {zs : List Int} {a : Option Addr} {cap : Nat} {w w' : World} (hc : c = 0) (hb : Below w.heap.size w w') (ho : OwnI w' w.heap.size w'.heap.size a zs.length (zI zs)) : IRes c zs w (.returned (.agg #[.int .i64 0, .slice a zs.length cap])) w' := by
  rw [IRes, hc]
  simp only [if_true]
  exact ⟨a, cap, rfl, hb, ho⟩
set_option maxHeartbeats 2000000 in
theorem specPt_any (t : Tr) (key : Int) (a : Option Addr) (ca : Nat) (w : World) (hs : SmallT t) (h : NdsAt w a t.n t.T) :
    Calls Try.prog 21 #[.agg #[.int .i64 t.root, .slice a t.n ca], .int .i64 key] w (IRes (ptC t key) (pth t.T key (t.n + 1) t.root.toNat) w) := by
  have HA : Hid (NdsAt w a t.n t.T) := h
  have HS : Hid (SmallT t) := hs
  clear h hs
  go_enter Try.func21, Try.ntmps21
  go_wp2_with fail
  obtain ⟨W, hW⟩ : ∃ y, y = (w.alloc (.cells #[.int .i64 t.root, .slice a t.n ca] 29)).alloc (.cells #[.int .i64 0, .slice none 0 0] 41) := ⟨_, rfl⟩
  have b0 : W.cell? ⟨w.heap.size, 0, none⟩ = some (.int .i64 t.root) := by rw [hW]; simp [go_sem]
  have b1 : W.cell? ⟨w.heap.size, 1, none⟩ = some (.slice a t.n ca) := by rw [hW]; simp [go_sem]
  have r0 : W.cell? ⟨w.heap.size + 1, 0, none⟩ = some (.int .i64 0) := by rw [hW]; simp [go_sem]
  have r1 : W.cell? ⟨w.heap.size + 1, 1, none⟩ = some (.slice none 0 0) := by rw [hW]; simp [go_sem]
  have rf : ∀ i, W.frozen? ⟨w.heap.size + 1, i, none⟩ = false := fun i => by rw [hW]; simp [go_sem]
  have HB : Hid (Below w.heap.size w W) := by rw [hW]; exact below_then (below_new _ _) (below_new _ _)
  have hsz : W.heap.size = w.heap.size + 2 := by rw [hW]; simp
  rw [← hW]
  clear hW
  refine (specTf_any t a ca W HS.out (HA.out.below HB.out)).mono ?_
  rintro e w1 ⟨rfl, hb1⟩
  have HB1 : Hid (Below w.heap.size w w1) := below_then HB.out hb1
  have c0 := cell_below b0 hb1
  have c1 := cell_below b1 hb1
  have s0' := cell_below r0 hb1
  have s1' := cell_below r1 hb1
  have sf : ∀ i, w1.frozen? ⟨w.heap.size + 1, i, none⟩ = false := fun i => (hb1.frozen (p := ⟨_, i, none⟩) (by show w.heap.size + 1 < W.heap.size; omega)).trans (rf i)
  have HZ1 : Hid (w.heap.size + 2 ≤ w1.heap.size) := by have := hb1.size; show _ ≤ _; omega
  clear hb1 b0 b1 r0 r1 rf HB hsz
  by_cases hg : trF t = 0
  · have HG : Hid (trF t = 0) := hg
    rw [hg]
    clear hg
    cases hk : inB key 0 10000
    · have HC : Hid (ptC t key = 3) := by show ptC t key = 3; unfold ptC; rw [if_neg (by rw [HG.out]; simp), if_neg (by rw [hk]; simp)]
      go_wp2_with (go_at_call 55; refine (l4Key_any _ _).mono ?_; rintro e w' ⟨rfl, hw⟩; have hw1 := hw.symm; clear hw; subst hw1; rw [hk])
      refine bodyPost_ret (v := .agg #[.int .i64 3, .slice none 0 0]) (by simp [results, Try.results21, go_sem, s0', s1']) rfl ?_
      refine ires_no ⟨HC.out, by omega⟩ ?_
      repeat (first | with_reducible exact HB1.out | with_reducible refine Below.setCell ?_ (by first | omega | (simp <;> omega)) _)
    · have HC : Hid (ptC t key = 0) := by show ptC t key = 0; unfold ptC; rw [if_neg (by rw [HG.out]; simp), if_pos hk]
      obtain ⟨hn1, hn, hG, hr, hf⟩ := trF_good HG.out
      have HW : Hid (Calls Try.prog 53 #[.pointer (some ⟨w.heap.size, 0, none⟩), .int .i64 key] w1 (IAn (pth t.T key (t.n + 1) t.root.toNat) w1)) := l4Path_any t key w.heap.size ca a w1 hn1 hn hG hr.1 hr.2 hf c0 c1 (HA.out.below HB1.out)
      clear hG hr hf hn1 hn
      obtain ⟨P, hP⟩ : ∃ x, x = pth t.T key (t.n + 1) t.root.toNat := ⟨_, rfl⟩
      have HPE : Hid (pth t.T key (t.n + 1) t.root.toNat = P) := hP.symm
      rw [← hP] at HW
      clear hP
      go_wp2_with (go_at_call 55; refine (l4Key_any _ _).mono ?_; rintro e w' ⟨rfl, hw⟩; have hw1 := hw.symm; clear hw; subst hw1; rw [hk])
      refine HW.out.mono ?_
      intro e w2 hpost
      unfold IAn at hpost
      obtain ⟨pa, pc, he, hb2, ho2⟩ := hpost
      subst he
      have HB2 : Hid (Below w.heap.size w w2) := below_then HB1.out hb2
      have HO2 : Hid (OwnI w2 w1.heap.size w2.heap.size pa P.length (zI P)) := ho2
      have x0 := cell_below s0' hb2
      have x1 := cell_below s1' hb2
      have xf : ∀ i, w2.frozen? ⟨w.heap.size + 1, i, none⟩ = false := fun i => (hb2.frozen (p := ⟨_, i, none⟩) (by have := HZ1.out; show w.heap.size + 1 < w1.heap.size; omega)).trans (sf i)
      have HEND : Hid (∀ w3, Writes w.heap.size (w.heap.size + 2) w2 w3 → w3.heap.size = w2.heap.size → IRes (ptC t key) (pth t.T key (t.n + 1) t.root.toNat) w (.returned (.agg #[.int .i64 0, .slice pa P.length pc])) w3) := fun w3 h1 h2 => by
        have hz := HZ1.out
        have hz2 := hb2.size
        rw [HPE.out]
        exact ires_yes HC.out (h1.below HB2.out (Nat.le_refl _)) (by rw [h2]; exact (HO2.out.writes h1 (.inr hz)).wide (by omega) (Nat.le_refl _) (by omega))
      clear hb2 s0' s1' sf c0 c1 ho2
      go_wp2_with fail
      refine bodyPost_ret (v := .agg #[.int .i64 0, .slice pa P.length pc]) (by simp [results, Try.results21, go_sem, x0, x1]) rfl ?_
      refine HEND.out _ ?_ (by simp [World.setCell])
      repeat (first | with_reducible exact Writes.refl _ _ _ | with_reducible refine Writes.setCell ?_ (by first | omega | (simp <;> omega)) (by first | omega | (simp <;> omega)) _)
  · have hne : (trF t != 0) = true := by simp [hg]
    have HC : Hid (ptC t key = trF t ∧ trF t ≠ 0) := ⟨by unfold ptC; rw [if_pos hg], hg⟩
    obtain ⟨tc, htc⟩ : ∃ x, x = trF t := ⟨_, rfl⟩
    rw [← htc] at hne HC ⊢
    clear hg htc
    go_wp2_with fail
    refine bodyPost_ret (v := .agg #[.int .i64 tc, .slice none 0 0]) (by simp [results, Try.results21, go_sem, s0', s1']) rfl ?_
    refine ires_no HC.out ?_
    repeat (first | with_reducible exact HB1.out | with_reducible refine Below.setCell ?_ (by first | omega | (simp <;> omega)) _)
set_option maxHeartbeats 2000000 in
theorem treeKeyFault_any (t : Tr) (key : Int) (a : Option Addr) (ca : Nat) (w : World) (hs : SmallT t) (h : NdsAt w a t.n t.T) :
    Calls Try.prog 56 #[.agg #[.int .i64 t.root, .slice a t.n ca], .int .i64 key] w fun e w' => e = .returned (.int .i64 (ptC t key)) ∧ Below w.heap.size w w' := by
  have HA : Hid (∀ o : Obj, NdsAt (w.alloc o) a t.n t.T) := fun o => h.below (below_new _ _)
  have HS : Hid (SmallT t) := hs
  clear h hs
  go_enter Try.func56, Try.ntmps56
  go_wp2_with fail
  refine (implTf_any t a ca _ HS.out (HA.out _)).mono ?_
  rintro e w1 ⟨rfl, hb1⟩
  have HB1 : Hid (Below w.heap.size w w1) := below_then (below_new _ _) hb1
  clear hb1
  by_cases hg : trF t = 0
  · have HG : Hid (trF t = 0) := hg
    rw [hg]
    clear hg
    cases hk : inB key 0 10000
    · have HC : Hid (ptC t key = 3) := by show ptC t key = 3; unfold ptC; rw [if_neg (by rw [HG.out]; simp), if_neg (by rw [hk]; simp)]
      go_wp2_with (go_at_call 76; refine (isTreeKey_any _ _).mono ?_; rintro e w' ⟨rfl, hw⟩; have hw1 := hw.symm; clear hw; subst hw1; rw [hk])
      go_ret
      exact ⟨ret_int HC.out.symm, HB1.out⟩
    · have HC : Hid (ptC t key = 0) := by show ptC t key = 0; unfold ptC; rw [if_neg (by rw [HG.out]; simp), if_pos hk]
      go_wp2_with (go_at_call 76; refine (isTreeKey_any _ _).mono ?_; rintro e w' ⟨rfl, hw⟩; have hw1 := hw.symm; clear hw; subst hw1; rw [hk])
      go_ret
      exact ⟨ret_int HC.out.symm, HB1.out⟩
  · have hne : (trF t != 0) = true := by simp [hg]
    have HC : Hid (ptC t key = trF t) := by show ptC t key = _; unfold ptC; rw [if_pos hg]
    obtain ⟨tc, htc⟩ : ∃ x, x = trF t := ⟨_, rfl⟩
    rw [← htc] at hne HC ⊢
    clear hg htc
    go_wp2_with fail
    go_ret
    exact ⟨ret_int HC.out.symm, HB1.out⟩
theorem ptC_good {t : Tr} {key : Int} (h : ptC t key = 0) : trF t = 0 ∧ inB key 0 10000 = true := by
  unfold ptC at h
  split at h
  · rename_i h1; exact absurd h h1
  · rename_i h1
    split at h
    · rename_i h2; exact ⟨by simpa using h1, h2⟩
    · omega
set_option maxHeartbeats 2000000 in
theorem implPt_any (t : Tr) (key : Int) (a : Option Addr) (ca : Nat) (w : World) (hs : SmallT t) (h : NdsAt w a t.n t.T) :
    Calls Try.prog 22 #[.agg #[.int .i64 t.root, .slice a t.n ca], .int .i64 key] w (IRes (ptC t key) (pth t.T key (t.n + 1) t.root.toNat) w) := by
  have HA : Hid (NdsAt w a t.n t.T) := h
  have HS : Hid (SmallT t) := hs
  clear h hs
  go_enter Try.func22, Try.ntmps22
  go_wp2_with fail
  obtain ⟨W, hW⟩ : ∃ y, y = (w.alloc (.cells #[.int .i64 t.root, .slice a t.n ca] 29)).alloc (.cells #[.int .i64 0, .slice none 0 0] 41) := ⟨_, rfl⟩
  have b0 : W.cell? ⟨w.heap.size, 0, none⟩ = some (.int .i64 t.root) := by rw [hW]; simp [go_sem]
  have b1 : W.cell? ⟨w.heap.size, 1, none⟩ = some (.slice a t.n ca) := by rw [hW]; simp [go_sem]
  have r0 : W.cell? ⟨w.heap.size + 1, 0, none⟩ = some (.int .i64 0) := by rw [hW]; simp [go_sem]
  have r1 : W.cell? ⟨w.heap.size + 1, 1, none⟩ = some (.slice none 0 0) := by rw [hW]; simp [go_sem]
  have rf : ∀ i, W.frozen? ⟨w.heap.size + 1, i, none⟩ = false := fun i => by rw [hW]; simp [go_sem]
  have HB : Hid (Below w.heap.size w W) := by rw [hW]; exact below_then (below_new _ _) (below_new _ _)
  have hsz : W.heap.size = w.heap.size + 2 := by rw [hW]; simp
  rw [← hW]
  clear hW
  refine (treeKeyFault_any t key a ca W HS.out (HA.out.below HB.out)).mono ?_
  rintro e w1 ⟨rfl, hb1⟩
  have HB1 : Hid (Below w.heap.size w w1) := below_then HB.out hb1
  have c0 := cell_below b0 hb1
  have c1 := cell_below b1 hb1
  have s0' := cell_below r0 hb1
  have s1' := cell_below r1 hb1
  have sf : ∀ i, w1.frozen? ⟨w.heap.size + 1, i, none⟩ = false := fun i => (hb1.frozen (p := ⟨_, i, none⟩) (by show w.heap.size + 1 < W.heap.size; omega)).trans (rf i)
  have HZ1 : Hid (w.heap.size + 2 ≤ w1.heap.size) := by have := hb1.size; show _ ≤ _; omega
  clear hb1 b0 b1 r0 r1 rf HB hsz
  by_cases hg : ptC t key = 0
  · have HC : Hid (ptC t key = 0) := hg
    have HG : Hid (trF t = 0) := (ptC_good hg).1
    rw [hg]
    clear hg
    obtain ⟨hn1, hn, hG, hr, hf⟩ := trF_good HG.out
    have HW : Hid (Calls Try.prog 54 #[.pointer (some ⟨w.heap.size, 0, none⟩), .int .i64 key] w1 (IAn (pth t.T key (t.n + 1) t.root.toNat) w1)) := wayTo_any t key w.heap.size ca a w1 hn1 hn hG hr.1 hr.2 hf c0 c1 (HA.out.below HB1.out)
    clear hG hr hf hn1 hn
    obtain ⟨P, hP⟩ : ∃ x, x = pth t.T key (t.n + 1) t.root.toNat := ⟨_, rfl⟩
    have HPE : Hid (pth t.T key (t.n + 1) t.root.toNat = P) := hP.symm
    rw [← hP] at HW
    clear hP
    go_wp2_with fail
    refine HW.out.mono ?_
    intro e w2 hpost
    unfold IAn at hpost
    obtain ⟨pa, pc, he, hb2, ho2⟩ := hpost
    subst he
    have HB2 : Hid (Below w.heap.size w w2) := below_then HB1.out hb2
    have HO2 : Hid (OwnI w2 w1.heap.size w2.heap.size pa P.length (zI P)) := ho2
    have x0 := cell_below s0' hb2
    have x1 := cell_below s1' hb2
    have xf : ∀ i, w2.frozen? ⟨w.heap.size + 1, i, none⟩ = false := fun i => (hb2.frozen (p := ⟨_, i, none⟩) (by have := HZ1.out; show w.heap.size + 1 < w1.heap.size; omega)).trans (sf i)
    have HEND : Hid (∀ w3, Writes w.heap.size (w.heap.size + 2) w2 w3 → w3.heap.size = w2.heap.size → IRes (ptC t key) (pth t.T key (t.n + 1) t.root.toNat) w (.returned (.agg #[.int .i64 0, .slice pa P.length pc])) w3) := fun w3 h1 h2 => by
      have hz := HZ1.out
      have hz2 := hb2.size
      rw [HPE.out]
      exact ires_yes HC.out (h1.below HB2.out (Nat.le_refl _)) (by rw [h2]; exact (HO2.out.writes h1 (.inr hz)).wide (by omega) (Nat.le_refl _) (by omega))
    clear hb2 s0' s1' sf c0 c1 ho2
    go_wp2_with fail
    refine bodyPost_ret (v := .agg #[.int .i64 0, .slice pa P.length pc]) (by simp [results, Try.results22, go_sem, x0, x1]) rfl ?_
    refine HEND.out _ ?_ (by simp [World.setCell])
    repeat (first | with_reducible exact Writes.refl _ _ _ | with_reducible refine Writes.setCell ?_ (by first | omega | (simp <;> omega)) (by first | omega | (simp <;> omega)) _)
  · have hne : (ptC t key != 0) = true := by simp [hg]
    obtain ⟨tc, htc⟩ : ∃ x, x = ptC t key := ⟨_, rfl⟩
    have HC : Hid (ptC t key = tc ∧ tc ≠ 0) := ⟨htc.symm, by rw [htc]; exact hg⟩
    rw [← htc] at hne ⊢
    clear hg htc
    go_wp2_with fail
    refine bodyPost_ret (v := .agg #[.int .i64 tc, .slice none 0 0]) (by simp [results, Try.results22, go_sem, s0', s1']) rfl ?_
    refine ires_no HC.out ?_
    repeat (first | with_reducible exact HB1.out | with_reducible refine Below.setCell ?_ (by first | omega | (simp <;> omega)) _)
theorem pt_le (t : Tr) (key : Int) : (if ptC t key = 0 then pth t.T key (t.n + 1) t.root.toNat else []).length ≤ 1048576 := by
  split
  · rename_i h
    have h1 := pth_len t.T key (t.n + 1) t.root.toNat
    have h2 := (trF_good (ptC_good h).1).2.1
    omega
  · simp
end Go.Proofs.Ytbnehgpefjbheaa
