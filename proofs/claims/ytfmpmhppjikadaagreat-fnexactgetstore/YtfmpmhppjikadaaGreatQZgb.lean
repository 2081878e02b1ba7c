/- What a store without a fault is; GetStore. -/
import Derived.Test.YtfmpmhppjikadaaGreatQZfe
import Derived.Test.YtfmpmhppjikadaaGreatQWae
import Derived.Test.YtfmpmhppjikadaaGreatQCof
namespace Go.Proofs.YtfmpmhppjikadaaGreat
open Go.RowKit Go.Deep
set_option linter.unusedVariables false
set_option maxRecDepth 20000

theorem pgF_good {p : Pg} {i : Nat} (h : pgF p i = 0) : pf p.id p.lsn p.cn p.cK p.cV = 0 ∧ p.id = (i : Int) ∧ ksB p.id p.cK p.cn 0 = true := by
  unfold pgF at h
  by_cases h1 : pf p.id p.lsn p.cn p.cK p.cV = 0
  · rw [if_pos h1] at h
    by_cases h2 : p.id = (i : Int)
    · rw [if_pos h2] at h
      by_cases h3 : ksB p.id p.cK p.cn 0 = true
      · exact ⟨h1, h2, h3⟩
      · rw [if_neg h3] at h; omega
    · rw [if_neg h2] at h; omega
  · rw [if_neg h1] at h; exact absurd h h1
theorem psF_good {T : Nat → Pg} {n : Nat} : ∀ d k, n - k = d → psF T (n - k) k = 0 → ∀ i, k ≤ i → i < n → pgF (T i) i = 0
  | 0, k, h, _, i, h1, h2 => by omega
  | d + 1, k, h, e, i, h1, h2 => by
    rw [psF_at (by omega)] at e
    by_cases c1 : pgF (T k) k = 0
    · rw [if_pos c1] at e
      by_cases q : i = k
      · subst q; exact c1
      · exact psF_good d (k + 1) (by omega) e i (by omega) h2
    · rw [if_neg c1] at e; exact absurd e c1
structure GoodSt (t : Sto) : Prop where
  nx : 1 ≤ t.nx ∧ t.nx ≤ 999
  pn : t.pn = 4
  pg : ∀ i, i < 4 → pf (t.pT i).id (t.pT i).lsn (t.pT i).cn (t.pT i).cK (t.pT i).cV = 0 ∧ (t.pT i).id = (i : Int) ∧ ksB (t.pT i).id (t.pT i).cK (t.pT i).cn 0 = true
  df : df t.d = 0
  dn : t.d.n = 4
  lg : lgC t.g = 0
  on : onF t.nx t.oF t.on 0 = 0
  hd : hdF (ivL t.oF t.on) t.hK t.hV t.hn 0 = 0
theorem stF_good {t : Sto} (h : stF t = 0) : GoodSt t := by
  unfold stF at h
  by_cases h1 : inB t.nx 1 999 = true
  · rw [if_pos h1] at h
    by_cases h2 : t.pn = 4
    · rw [if_pos h2] at h
      by_cases h3 : psF t.pT t.pn 0 = 0
      · rw [if_pos h3] at h
        by_cases h4 : df t.d = 0
        · rw [if_pos h4] at h
          by_cases h5 : t.d.n = 4
          · rw [if_pos h5] at h
            by_cases h6 : lgC t.g = 0
            · rw [if_pos h6] at h
              by_cases h7 : onF t.nx t.oF t.on 0 = 0
              · rw [if_pos h7] at h
                exact ⟨inB_iff.1 h1, h2, fun i hi => pgF_good (psF_good (n := t.pn) t.pn 0 rfl h3 i (by omega) (by omega)), h4, h5, h6, h7, h⟩
              · rw [if_neg h7] at h; exact absurd h h7
            · rw [if_neg h6] at h; exact absurd h h6
          · rw [if_neg h5] at h; omega
        · rw [if_neg h4] at h; exact absurd h h4
      · rw [if_neg h3] at h; exact absurd h h3
    · rw [if_neg h2] at h; omega
  · rw [if_neg h1] at h; omega
/-- The page of a key. -/
def kP (key : Int) : Nat := key.toNat % 4
theorem kP_lt (key : Int) : kP key < 4 := Nat.mod_lt _ (by omega)
theorem kP_mod {key : Int} (h : 0 ≤ key) : key.tmod 4 = (kP key : Int) := by
  obtain ⟨n, rfl⟩ : ∃ n : Nat, key = n := ⟨key.toNat, by omega⟩
  unfold kP
  rw [Int.toNat_natCast]
  rfl
def gsC (t : Sto) (key : Int) : Int := if stF t = 0 then (if inB key 0 31 = true then voC (t.pT (kP key)).cn (t.pT (kP key)).cK key else 3) else stF t
def gsV (t : Sto) (key : Int) : Int := if stF t = 0 then (if inB key 0 31 = true then voV (t.pT (kP key)).cn (t.pT (kP key)).cK (t.pT (kP key)).cV key else 0) else 0
set_option maxHeartbeats 4000000 in
theorem cellInStore_any (v0 v2 v3 v4 v5 v6 v7 : Value) (n : Nat) (T : Nat → Pg) (a : Option Addr) (cap : Nat) (key : Int) (w : World) (hk : 0 ≤ key) (hn : n = 4) (hc : (T (kP key)).cn ≤ 1048576) (h : PgsAt w a n T) :
    Calls Tryz.prog 70 #[.agg #[v0, .slice a n cap, v2, v3, v4, v5, v6, v7], .int .i64 key] w fun e w' => e = .returned (.agg #[.int .i64 (voC (T (kP key)).cn (T (kP key)).cK key), .int .i64 (voV (T (kP key)).cn (T (kP key)).cK (T (kP key)).cV key)]) ∧ Below w.heap.size w w' := by
  have hp := kP_lt key
  have hlt : kP key < n := by omega
  have hlt' : (kP key : Int) < (n : Int) := by omega
  have hp0 : (0 : Int) ≤ (kP key : Int) := by omega
  rcases h with h0 | ⟨b, off, rfl, hl, hcc⟩
  · omega
  obtain ⟨pa, pc, ⟨q0, q1, q2⟩, ⟨hI, -⟩, -⟩ := hcc (kP key) hlt
  have HI : Hid (CellsAt w pa (T (kP key)).cn (T (kP key)).cK (T (kP key)).cV) := hI
  have HM : Hid (key.tmod 4 = (kP key : Int)) := kP_mod hk
  have hb0 : ∀ o1 o2, Below w.heap.size w ((w.alloc o1).alloc o2) := fun o1 o2 => (((Below.refl _ _).alloc (Nat.le_refl _) _).alloc (by simp) _)
  generalize kP key = p at *
  generalize T p = t at *
  clear hcc hI q0 q1 hn
  go_enter Tryz.func70, Tryz.ntmps70
  go_upto_region 1 with fail
  obtain ⟨W, hW⟩ : ∃ x, x = (w.alloc (.cells #[v0, .slice (some ⟨b, off, none⟩) n cap, v2, v3, v4, v5, v6, v7] 42)).alloc (.cells #[.int .i64 0, .int .i64 0] 55) := ⟨_, rfl⟩
  have hbW : Below w.heap.size w W := by rw [hW]; exact hb0 _ _
  have hsW : W.heap.size = w.heap.size + 2 := by rw [hW]; simp
  have x1 : W.cell? ⟨w.heap.size, 1, none⟩ = some (.slice (some ⟨b, off, none⟩) n cap) := by rw [hW]; simp [go_sem]
  have r0 : W.cell? ⟨w.heap.size + 1, 0, none⟩ = some (.int .i64 0) := by rw [hW]; simp [go_sem]
  have r1 : W.cell? ⟨w.heap.size + 1, 1, none⟩ = some (.int .i64 0) := by rw [hW]; simp [go_sem]
  have f1 : ∀ i, W.frozen? ⟨w.heap.size + 1, i, none⟩ = false := fun i => by rw [hW]; simp [go_sem]
  have y2 := cell_below q2 hbW
  replace HI : Hid (CellsAt W pa t.cn t.cK t.cV) := HI.out.below hbW
  have HB : Hid (Below w.heap.size w W) := hbW
  have HSW : Hid (W.heap.size = w.heap.size + 2) := hsW
  rw [← hW]
  clear hW hbW hb0 q2 hsW
  refine wp_region_E 9 (S := fun u => u.cell? ⟨w.heap.size, 1, none⟩ = some (.slice (some ⟨b, off, none⟩) n cap) ∧ u.cell? ⟨b, off + p * 3 + 2, none⟩ = some (.slice pa t.cn pc)) (by kernel_rfl) ⟨x1, y2⟩ (fun hS => ?_)
  obtain ⟨u0, hu0⟩ : ∃ y, y = W.drew := ⟨_, rfl⟩
  have hb0 : Below W.heap.size W u0 := by rw [hu0]; exact (Below.refl _ _).drew
  rw [← hu0] at hS ⊢
  clear hu0
  replace HB : Hid (Below w.heap.size w u0) := below_then HB.out hb0
  replace HI : Hid (CellsAt u0 pa t.cn t.cK t.cV) := HI.out.below hb0
  replace r0 := cell_below r0 hb0
  replace r1 := cell_below r1 hb0
  replace f1 : ∀ i, u0.frozen? ⟨w.heap.size + 1, i, none⟩ = false := fun i => (hb0.frozen (p := ⟨_, i, none⟩) (by show w.heap.size + 1 < W.heap.size; have := HSW.out; omega)).trans (f1 i)
  have hlu : w.heap.size + 1 < u0.heap.size := by have := hb0.size; have := HSW.out; omega
  clear hb0 x1 y2 HSW
  refine wpAnyE_takeD (L := 9) (i := 0) (v := .pointer (some ⟨w.heap.size, 1, none⟩)) (some 5) rfl rfl (by kernel_rfl) (by kernel_rfl) (by kernel_rfl) (by kernel_rfl) (fun _ _ _ h => h) (Or.inl ⟨by kernel_rfl, by intro u hSu; go_simp⟩) hS ?_
  try simp only [Act.put, List.setIfInBounds_toArray, List.set_cons_zero, List.set_cons_succ]
  refine wpAnyE_takeD (L := 9) (i := 1) (v := .slice (some ⟨b, off, none⟩) n cap) (some 6) rfl rfl (by kernel_rfl) (by kernel_rfl) (by kernel_rfl) (by kernel_rfl) (fun _ _ _ h => h) (Or.inl ⟨by kernel_rfl, by intro u hSu; obtain ⟨h1, h2⟩ := hSu; go_simp⟩) hS ?_
  try simp only [Act.put, List.setIfInBounds_toArray, List.set_cons_zero, List.set_cons_succ]
  refine wpAnyE_takeD (L := 9) (i := 2) (v := .int .i64 key) (some 7) rfl rfl (by kernel_rfl) (by kernel_rfl) (by kernel_rfl) (by kernel_rfl) (fun _ _ _ h => h) (Or.inl ⟨by kernel_rfl, by intro u hSu; go_simp⟩) hS ?_
  try simp only [Act.put, List.setIfInBounds_toArray, List.set_cons_zero, List.set_cons_succ]
  refine wpAnyE_takeD (L := 9) (i := 7) (v := .int .i64 key) (some 12) rfl rfl (by kernel_rfl) (by kernel_rfl) (by kernel_rfl) (by kernel_rfl) (fun _ _ _ h => h) (Or.inl ⟨by kernel_rfl, by intro u hSu; go_simp⟩) hS ?_
  try simp only [Act.put, List.setIfInBounds_toArray, List.set_cons_zero, List.set_cons_succ]
  refine wpAnyE_ready (rs := [3]) (by kernel_rfl) (by simp) ?_
  refine AllReadyE.cons rfl (fun K9 hK => ?_) AllReadyE.nil
  go_simp
  refine (pageIdOf_any key u0).mono ?_
  rintro e w' ⟨rfl, hq⟩
  rw [hq, HM.out]
  clear hq
  refine hK.out _ _ (hS) (fun hS9 => ?_)
  try simp only [Act.put, List.setIfInBounds_toArray, List.set_cons_zero, List.set_cons_succ]
  clear hK K9 hS
  have hS := hS9
  clear hS9
  refine wpAnyE_takeD (L := 9) (i := 4) (v := .pointer (some ⟨b, off + p * 3, none⟩)) (some 9) rfl rfl (by kernel_rfl) (by kernel_rfl) (by kernel_rfl) (by kernel_rfl) (fun _ _ _ h => h) (Or.inl ⟨by kernel_rfl, by intro u hSu; go_simp⟩) hS ?_
  try simp only [Act.put, List.setIfInBounds_toArray, List.set_cons_zero, List.set_cons_succ]
  refine wpAnyE_takeD (L := 9) (i := 5) (v := .pointer (some ⟨b, off + p * 3 + 2, none⟩)) (some 10) rfl rfl (by kernel_rfl) (by kernel_rfl) (by kernel_rfl) (by kernel_rfl) (fun _ _ _ h => h) (Or.inl ⟨by kernel_rfl, by intro u hSu; go_simp⟩) hS ?_
  try simp only [Act.put, List.setIfInBounds_toArray, List.set_cons_zero, List.set_cons_succ]
  refine wpAnyE_takeD (L := 9) (i := 6) (v := .slice pa t.cn pc) (some 11) rfl rfl (by kernel_rfl) (by kernel_rfl) (by kernel_rfl) (by kernel_rfl) (fun _ _ _ h => h) (Or.inl ⟨by kernel_rfl, by intro u hSu; obtain ⟨h1, h2⟩ := hSu; go_simp⟩) hS ?_
  try simp only [Act.put, List.setIfInBounds_toArray, List.set_cons_zero, List.set_cons_succ]
  refine wpAnyE_ready (rs := [8]) (by kernel_rfl) (by simp) ?_
  refine AllReadyE.cons rfl (fun K9 hK => ?_) AllReadyE.nil
  go_simp
  refine (valueOf_any t.cn t.cK t.cV pa pc key u0 (by omega) HI.out).mono ?_
  rintro e u1 ⟨rfl, hb⟩
  replace HB : Hid (Below w.heap.size w u1) := below_then HB.out hb
  replace r0 := cell_below r0 hb
  replace r1 := cell_below r1 hb
  replace f1 : ∀ i, u1.frozen? ⟨w.heap.size + 1, i, none⟩ = false := fun i => (hb.frozen (p := ⟨_, i, none⟩) (by show w.heap.size + 1 < u0.heap.size; omega)).trans (f1 i)
  have hS2 : u1.cell? ⟨w.heap.size, 1, none⟩ = some (.slice (some ⟨b, off, none⟩) n cap) ∧ u1.cell? ⟨b, off + p * 3 + 2, none⟩ = some (.slice pa t.cn pc) := ⟨cell_below hS.1 hb, cell_below hS.2 hb⟩
  clear hb
  refine hK.out _ _ (hS2) (fun hS9 => ?_)
  try simp only [Act.put, List.setIfInBounds_toArray, List.set_cons_zero, List.set_cons_succ]
  clear hK K9 hS
  have hS := hS9
  clear hS9
  refine wpAnyE_ready (rs := [9]) (by kernel_rfl) (by simp) ?_
  refine AllReadyE.last rfl (fun K9 hK => ?_)
  go_simp
  refine hK.out _ _ ?_
  try simp only [Act.put, List.setIfInBounds_toArray, List.set_cons_zero, List.set_cons_succ]
  clear hK K9 hS
  clear hS2
  refine wpAnyE_done (by kernel_rfl) ?_ _
  go_simp
  go_wp2_with fail
  refine bodyPost_ret (v := .agg #[.int .i64 (voC t.cn t.cK key), .int .i64 (voV t.cn t.cK t.cV key)]) (by simp [results, Tryz.results70, go_sem, *]) rfl ⟨rfl, ?_⟩
  repeat (first | with_reducible exact HB.out | refine Below.setCell ?_ (by first | omega | (simp <;> omega)) _)
set_option maxHeartbeats 4000000 in
theorem implGs_any (t : Sto) (a0 : Option Addr) (c0 : Nat) (a1 : Option Addr) (c1 : Nat) (a2 : Option Addr) (c2 : Nat) (a3 : Option Addr) (c3 : Nat) (a4 : Option Addr) (c4 : Nat) (a5 : Option Addr) (c5 : Nat) (a6 : Option Addr) (c6 : Nat) (key : Int) (w : World) (hS : SmSt t) (hby : LogByt t.g) (h : InSt w a0 a1 a2 a3 a4 a5 a6 t) :
    Calls Tryz.prog 21 #[.agg #[.int .i64 t.nx, .slice a0 t.pn c0, .slice a1 t.d.n c1, .slice a2 t.d.m c2, .slice a3 t.g.n1 c3, .slice a4 t.g.n2 c4, .slice a5 t.hn c5, .slice a6 t.on c6], .int .i64 key] w fun e w' => e = .returned (.agg #[.int .i64 (gsC t key), .int .i64 (gsV t key)]) ∧ Below w.heap.size w w' := by
  have HA : Hid (InSt w a0 a1 a2 a3 a4 a5 a6 t) := h
  have HS : Hid (SmSt t) := hS
  have HC : Hid (gsC t key = if stF t = 0 then (if inB key 0 31 = true then voC (t.pT (kP key)).cn (t.pT (kP key)).cK key else 3) else stF t) := rfl
  have HV : Hid (gsV t key = if stF t = 0 then (if inB key 0 31 = true then voV (t.pT (kP key)).cn (t.pT (kP key)).cK (t.pT (kP key)).cV key else 0) else 0) := rfl
  have hb0 : ∀ o1 o2, Below w.heap.size w ((w.alloc o1).alloc o2) := fun o1 o2 => (((Below.refl _ _).alloc (Nat.le_refl _) _).alloc (by simp) _)
  generalize gsC t key = C at *
  generalize gsV t key = V at *
  clear h
  go_enter Tryz.func21, Tryz.ntmps21
  go_wp2_with fail
  refine (implStf_any t a0 c0 a1 c1 a2 c2 a3 c3 a4 c4 a5 c5 a6 c6 _ hS hby (HA.out.below (hb0 _ _))).mono ?_
  rintro e w1 ⟨rfl, hb⟩
  have HB : Hid (Below w.heap.size w w1) := below_then (hb0 _ _) hb
  have x0 : w1.cell? ⟨w.heap.size, 0, none⟩ = some (.int .i64 t.nx) := by rw [(bcell29 hb).1 _ _ (by simp <;> omega)]; simp [go_sem]
  have x1 : w1.cell? ⟨w.heap.size, 1, none⟩ = some (.slice a0 t.pn c0) := by rw [(bcell29 hb).1 _ _ (by simp <;> omega)]; simp [go_sem]
  have x2 : w1.cell? ⟨w.heap.size, 2, none⟩ = some (.slice a1 t.d.n c1) := by rw [(bcell29 hb).1 _ _ (by simp <;> omega)]; simp [go_sem]
  have x3 : w1.cell? ⟨w.heap.size, 3, none⟩ = some (.slice a2 t.d.m c2) := by rw [(bcell29 hb).1 _ _ (by simp <;> omega)]; simp [go_sem]
  have x4 : w1.cell? ⟨w.heap.size, 4, none⟩ = some (.slice a3 t.g.n1 c3) := by rw [(bcell29 hb).1 _ _ (by simp <;> omega)]; simp [go_sem]
  have x5 : w1.cell? ⟨w.heap.size, 5, none⟩ = some (.slice a4 t.g.n2 c4) := by rw [(bcell29 hb).1 _ _ (by simp <;> omega)]; simp [go_sem]
  have x6 : w1.cell? ⟨w.heap.size, 6, none⟩ = some (.slice a5 t.hn c5) := by rw [(bcell29 hb).1 _ _ (by simp <;> omega)]; simp [go_sem]
  have x7 : w1.cell? ⟨w.heap.size, 7, none⟩ = some (.slice a6 t.on c6) := by rw [(bcell29 hb).1 _ _ (by simp <;> omega)]; simp [go_sem]
  have r0 : w1.cell? ⟨w.heap.size + 1, 0, none⟩ = some (.int .i64 0) := by rw [(bcell29 hb).1 _ _ (by simp <;> omega)]; simp [go_sem]
  have r1 : w1.cell? ⟨w.heap.size + 1, 1, none⟩ = some (.int .i64 0) := by rw [(bcell29 hb).1 _ _ (by simp <;> omega)]; simp [go_sem]
  have f1 : ∀ i, w1.frozen? ⟨w.heap.size + 1, i, none⟩ = false := fun i => by rw [(bcell29 hb).2 _ _ (by simp <;> omega)]; simp [go_sem]
  have hlu : w.heap.size + 1 < w1.heap.size := by have := hb.size; simp at this; omega
  clear hb hb0 hS
  by_cases h0 : stF t = 0
  case neg =>
    replace HC : Hid (C = stF t) := HC.out.trans (if_neg h0)
    replace HV : Hid (V = 0) := HV.out.trans (if_neg h0)
    generalize stF t = c at *
    have h0' : (c != 0) = true := by simp [h0]
    clear h0
    go_wp2_with fail
    refine bodyPost_ret (v := .agg #[.int .i64 c, .int .i64 0]) (by simp [results, Tryz.results21, go_sem, *]) rfl ⟨ret_two HC.out.symm HV.out.symm, ?_⟩
    repeat (first | with_reducible exact HB.out | refine Below.setCell ?_ (by first | omega | (simp <;> omega)) _)
  replace HC : Hid (C = _) := HC.out.trans (if_pos h0)
  replace HV : Hid (V = _) := HV.out.trans (if_pos h0)
  have HGD : Hid (GoodSt t) := stF_good h0
  rw [h0]
  clear h0
  obtain k1 | k1 := boolor (inB key 0 31)
  case inr =>
    replace HC : Hid (C = 3) := HC.out.trans (if_neg (by simp [k1]))
    replace HV : Hid (V = 0) := HV.out.trans (if_neg (by simp [k1]))
    go_wp2_with (first | (go_at_call 75; refine (isKey_any _ _).mono ?_; rintro e w' ⟨rfl, hq⟩; rw [hq, k1]; clear hq))
    refine bodyPost_ret (v := .agg #[.int .i64 3, .int .i64 0]) (by simp [results, Tryz.results21, go_sem, *]) rfl ⟨ret_two HC.out.symm HV.out.symm, ?_⟩
    repeat (first | with_reducible exact HB.out | refine Below.setCell ?_ (by first | omega | (simp <;> omega)) _)
  replace HC : Hid (C = _) := HC.out.trans (if_pos k1)
  replace HV : Hid (V = _) := HV.out.trans (if_pos k1)
  go_wp2_with (first | (go_at_call 75; refine (isKey_any _ _).mono ?_; rintro e w' ⟨rfl, hq⟩; rw [hq, k1]; clear hq))
  refine (cellInStore_any (.int .i64 t.nx) (.slice a1 t.d.n c1) (.slice a2 t.d.m c2) (.slice a3 t.g.n1 c3) (.slice a4 t.g.n2 c4) (.slice a5 t.hn c5) (.slice a6 t.on c6) t.pn t.pT a0 c0 key _ (inB_iff.1 k1).1 HGD.out.pn (HS.out.1.2.1 _ (by have := kP_lt key; have := HGD.out.pn; omega)).1 (HA.out.1.below HB.out)).mono ?_
  rintro e w2 ⟨rfl, hb⟩
  replace HB : Hid (Below w.heap.size w w2) := below_then HB.out hb
  replace r0 := cell_below r0 hb
  replace r1 := cell_below r1 hb
  replace f1 : ∀ i, w2.frozen? ⟨w.heap.size + 1, i, none⟩ = false := fun i => (hb.frozen (p := ⟨_, i, none⟩) (by show w.heap.size + 1 < w1.heap.size; omega)).trans (f1 i)
  clear hb
  generalize voC (t.pT (kP key)).cn (t.pT (kP key)).cK key = c at *
  generalize voV (t.pT (kP key)).cn (t.pT (kP key)).cK (t.pT (kP key)).cV key = v at *
  go_wp2_with fail
  refine bodyPost_ret (v := .agg #[.int .i64 c, .int .i64 v]) (by simp [results, Tryz.results21, go_sem, *]) rfl ⟨ret_two HC.out.symm HV.out.symm, ?_⟩
  repeat (first | with_reducible exact HB.out | refine Below.setCell ?_ (by first | omega | (simp <;> omega)) _)
set_option maxHeartbeats 4000000 in
theorem specGs_any (t : Sto) (a0 : Option Addr) (c0 : Nat) (a1 : Option Addr) (c1 : Nat) (a2 : Option Addr) (c2 : Nat) (a3 : Option Addr) (c3 : Nat) (a4 : Option Addr) (c4 : Nat) (a5 : Option Addr) (c5 : Nat) (a6 : Option Addr) (c6 : Nat) (key : Int) (w : World) (hS : SmSt t) (hby : LogByt t.g) (h : InSt w a0 a1 a2 a3 a4 a5 a6 t) :
    Calls Tryz.prog 20 #[.agg #[.int .i64 t.nx, .slice a0 t.pn c0, .slice a1 t.d.n c1, .slice a2 t.d.m c2, .slice a3 t.g.n1 c3, .slice a4 t.g.n2 c4, .slice a5 t.hn c5, .slice a6 t.on c6], .int .i64 key] w fun e w' => e = .returned (.agg #[.int .i64 (gsC t key), .int .i64 (gsV t key)]) ∧ Below w.heap.size w w' := by
  have HA : Hid (InSt w a0 a1 a2 a3 a4 a5 a6 t) := h
  have HS : Hid (SmSt t) := hS
  have HC : Hid (gsC t key = if stF t = 0 then (if inB key 0 31 = true then voC (t.pT (kP key)).cn (t.pT (kP key)).cK key else 3) else stF t) := rfl
  have HV : Hid (gsV t key = if stF t = 0 then (if inB key 0 31 = true then voV (t.pT (kP key)).cn (t.pT (kP key)).cK (t.pT (kP key)).cV key else 0) else 0) := rfl
  have hb0 : ∀ o1 o2, Below w.heap.size w ((w.alloc o1).alloc o2) := fun o1 o2 => (((Below.refl _ _).alloc (Nat.le_refl _) _).alloc (by simp) _)
  generalize gsC t key = C at *
  generalize gsV t key = V at *
  clear h
  go_enter Tryz.func20, Tryz.ntmps20
  go_wp2_with fail
  refine (l12Fault_any t w.heap.size a0 c0 a1 c1 a2 c2 a3 c3 a4 c4 a5 c5 a6 c6 _ hS hby ((BoxS.new w _ _ _ _ _ _ _ _ _).alloc _) (HA.out.below (hb0 _ _))).mono ?_
  rintro e w1 ⟨rfl, hb⟩
  have HB : Hid (Below w.heap.size w w1) := below_then (hb0 _ _) hb
  have x1 : w1.cell? ⟨w.heap.size, 1, none⟩ = some (.slice a0 t.pn c0) := by rw [(bcell29 hb).1 _ _ (by simp <;> omega)]; simp [go_sem]
  have r0 : w1.cell? ⟨w.heap.size + 1, 0, none⟩ = some (.int .i64 0) := by rw [(bcell29 hb).1 _ _ (by simp <;> omega)]; simp [go_sem]
  have r1 : w1.cell? ⟨w.heap.size + 1, 1, none⟩ = some (.int .i64 0) := by rw [(bcell29 hb).1 _ _ (by simp <;> omega)]; simp [go_sem]
  have f1 : ∀ i, w1.frozen? ⟨w.heap.size + 1, i, none⟩ = false := fun i => by rw [(bcell29 hb).2 _ _ (by simp <;> omega)]; simp [go_sem]
  have hlu : w.heap.size + 1 < w1.heap.size := by have := hb.size; simp at this; omega
  clear hb hb0 hS
  by_cases h0 : stF t = 0
  case neg =>
    replace HC : Hid (C = stF t) := HC.out.trans (if_neg h0)
    replace HV : Hid (V = 0) := HV.out.trans (if_neg h0)
    generalize stF t = c at *
    have h0' : (c != 0) = true := by simp [h0]
    clear h0
    go_wp2_with fail
    refine bodyPost_ret (v := .agg #[.int .i64 c, .int .i64 0]) (by simp [results, Tryz.results20, go_sem, *]) rfl ⟨ret_two HC.out.symm HV.out.symm, ?_⟩
    repeat (first | with_reducible exact HB.out | refine Below.setCell ?_ (by first | omega | (simp <;> omega)) _)
  replace HC : Hid (C = _) := HC.out.trans (if_pos h0)
  replace HV : Hid (V = _) := HV.out.trans (if_pos h0)
  have HGD : Hid (GoodSt t) := stF_good h0
  rw [h0]
  clear h0
  obtain k1 | k1 := boolor (inB key 0 31)
  case inr =>
    replace HC : Hid (C = 3) := HC.out.trans (if_neg (by simp [k1]))
    replace HV : Hid (V = 0) := HV.out.trans (if_neg (by simp [k1]))
    go_wp2_with (first | (go_at_call 59; refine (l1Key_any _ _).mono ?_; rintro e w' ⟨rfl, hq⟩; rw [hq, k1]; clear hq))
    refine bodyPost_ret (v := .agg #[.int .i64 3, .int .i64 0]) (by simp [results, Tryz.results20, go_sem, *]) rfl ⟨ret_two HC.out.symm HV.out.symm, ?_⟩
    repeat (first | with_reducible exact HB.out | refine Below.setCell ?_ (by first | omega | (simp <;> omega)) _)
  replace HC : Hid (C = _) := HC.out.trans (if_pos k1)
  replace HV : Hid (V = _) := HV.out.trans (if_pos k1)
  have hm := kP_mod (inB_iff.1 k1).1
  have hp := kP_lt key
  have hlt : kP key < t.pn := by have := HGD.out.pn; omega
  have hlt' : (kP key : Int) < (t.pn : Int) := by omega
  have hp0 : (0 : Int) ≤ (kP key : Int) := by omega
  rcases HA.out.1.below HB.out with q | ⟨b, off, rfl, hl, hcc⟩
  · omega
  obtain ⟨pa, pc, ⟨q0, q1, q2⟩, ⟨hI, -⟩, -⟩ := hcc (kP key) hlt
  have HI : Hid (CellsAt w1 pa (t.pT (kP key)).cn (t.pT (kP key)).cK (t.pT (kP key)).cV) := hI
  have HCN : Hid ((t.pT (kP key)).cn ≤ 1048576) := (HS.out.1.2.1 _ hlt).1
  have HPF := (HGD.out.pg (kP key) hp).1
  have HCC : Hid (coC (t.pT (kP key)).id (t.pT (kP key)).lsn (t.pT (kP key)).cn (t.pT (kP key)).cK (t.pT (kP key)).cV key = C) := by show _ = C; rw [coC, if_pos HPF, HC.out]; rfl
  have HVV : Hid (coV (t.pT (kP key)).id (t.pT (kP key)).lsn (t.pT (kP key)).cn (t.pT (kP key)).cK (t.pT (kP key)).cV key = V) := by show _ = V; rw [coV, if_pos HPF, HV.out]; rfl
  generalize kP key = p at *
  generalize t.pT p = P at *
  clear hcc hI HPF HC HV
  go_wp2_with (first | (go_at_call 59; refine (l1Key_any _ _).mono ?_; rintro e w' ⟨rfl, hq⟩; rw [hq, k1]; clear hq))
  refine (specCellOf_any P.id P.lsn P.cn P.cK P.cV pa pc key _ (by have := HCN.out; omega) HI.out).mono ?_
  rintro e w2 ⟨rfl, hb⟩
  rw [HCC.out, HVV.out]
  replace HB : Hid (Below w.heap.size w w2) := below_then HB.out hb
  replace r0 := cell_below r0 hb
  replace r1 := cell_below r1 hb
  replace f1 : ∀ i, w2.frozen? ⟨w.heap.size + 1, i, none⟩ = false := fun i => (hb.frozen (p := ⟨_, i, none⟩) (by show w.heap.size + 1 < w1.heap.size; omega)).trans (f1 i)
  clear hb HCC HVV
  go_wp2_with fail
  refine bodyPost_ret (v := .agg #[.int .i64 C, .int .i64 V]) (by simp [results, Tryz.results20, go_sem, *]) rfl ⟨rfl, ?_⟩
  repeat (first | with_reducible exact HB.out | refine Below.setCell ?_ (by first | omega | (simp <;> omega)) _)
end Go.Proofs.YtfmpmhppjikadaaGreat
