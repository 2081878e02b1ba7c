/- spec.l6Roll. -/
import Derived.Test.YtabkgncnanlapaaGreatQRlc
import Derived.Test.YtabkgncnanlapaaGreatQVg
import Derived.Test.YtabkgncnanlapaaGreatQWae
namespace Go.Proofs.YtabkgncnanlapaaGreat
open Go.RowKit Go.Deep
set_option linter.unusedVariables false
set_option linter.unusedSimpArgs false
set_option maxRecDepth 20000

theorem l6RowP (n : Nat) (R : Nat → Rw) (B : Nat) (a : Option Addr) (cap : Nat) (key : Int) (w : World) (p : Nat) (hn : n ≤ 1048576) (hf : fR n R key = (p : Int)) (hc : w.cell? ⟨B, 3, none⟩ = some (.slice a n cap)) (h : RwsAt w a n R) :
    Calls Tryz.prog 50 #[.pointer (some ⟨B, 0, none⟩), .int .i64 key] w fun e w' => e = .returned (.int .i64 (p : Int)) ∧ Below w.heap.size w w' := by
  refine (l6Row_any n R B a cap key w hn hc h).mono ?_
  rintro e w' ⟨rfl, rfl⟩
  exact ⟨by rw [hf], Below.refl _ _⟩
theorem tkR_key (id : Int) (u : Ud) (r : Rw) : (tkR id u r).key = r.key := by
  unfold tkR
  split <;> rfl
theorem own4_tail {w : World} {lo hi b off n : Nat} {R : Nat → Vr} (hs : hi ≤ w.heap.size) (h1 : lo ≤ b) (h2 : b < hi) (h : Row4 w b off n R) : Own4 w lo hi (some ⟨b, off + 4, none⟩) (n - 1) (fun i => R (i + 1)) := by
  refine ⟨hs, .inr ⟨b, off + 4, rfl, h1, h2, fun i hi => ?_, h.2⟩⟩
  have := h.1 (i + 1) (by omega)
  rwa [show off + (i + 1) * 4 = off + 4 + i * 4 by omega] at this
def RoR (B tb o : Nat) (ua : Option Addr) (save uc : Nat) (nx ck : Int) (tsl : Value) (t : Tx) (rs : List Rw) (lo : Nat) (w : World) (e : Ending) (w' : World) : Prop :=
  e = .returned (.tuple #[]) ∧ ∃ u ra rc q xs, RlI w u B nx ck tsl t.id t.U t.n rs (t.n - save) lo ra rc q xs ∧ w' = u.setCell ⟨tb, o + 4, none⟩ (.slice ua save uc)
set_option maxHeartbeats 16000000 in
theorem l6Roll_any (B tb toff j p0 tc : Nat) (t : Tx) (ua : Option Addr) (uc : Nat) (nx ck : Int) (rs : List Rw) (xs0 : List HRw) (ra0 : Option Addr) (rc0 q0 lo save : Nat) (w : World)
    (hI : RlI w w B nx ck (.slice (some ⟨tb, toff, none⟩) p0 tc) t.id t.U t.n rs 0 lo ra0 rc0 q0 xs0) (hlo : lo ≤ w.heap.size) (hj : j < p0) (hp20 : p0 ≤ 20) (hn : t.n ≤ 60) (huc : t.n ≤ uc) (hsv : save ≤ t.n) (hC : CTx w tb (toff + j * 5) t ua uc) (hfz : ∀ i, w.frozen? ⟨tb, i, none⟩ = false) (htB : tb ≠ B)
    (hU : UndsAt w ua t.n t.U) (hUB : ∀ b off, ua = some ⟨b, off, none⟩ → t.n = 0 ∨ b ≠ B) (hFit : Fit t.U t.n rs) (hh : ∀ j, j < t.n → (t.U j).h = hasU t.U (t.U j).k j) (hr12 : ∀ r ∈ rs, r.n ≤ 12) (hq32 : rs.length ≤ 32) :
    Calls Tryz.prog 27 #[.pointer (some ⟨B, 0, none⟩), .int .i64 (j : Int), .int .i64 (save : Int)] w (RoR B tb (toff + j * 5) ua save uc nx ck (.slice (some ⟨tb, toff, none⟩) p0 tc) t rs lo w) := by
  have HI0 : Hid (RlI w w B nx ck (.slice (some ⟨tb, toff, none⟩) p0 tc) t.id t.U t.n rs 0 lo ra0 rc0 q0 xs0) := hI
  have HC : Hid (CTx w tb (toff + j * 5) t ua uc) := hC
  have HFZ : Hid (∀ i, w.frozen? ⟨tb, i, none⟩ = false) := hfz
  have HU : Hid (UndsAt w ua t.n t.U) := hU
  have HUB : Hid (∀ b off, ua = some ⟨b, off, none⟩ → t.n = 0 ∨ b ≠ B) := hUB
  have HFit : Hid (∀ m, m ≤ t.n → Fit t.U (t.n - m) (unL t.id t.U t.n rs m)) := fun m hm => hFit.un hh m hm
  have H12 : Hid (∀ m, ∀ r ∈ unL t.id t.U t.n rs m, r.n ≤ 12) := unL_12 t.id t.U t.n rs hr12
  have H32 : Hid (∀ m, (unL t.id t.U t.n rs m).length ≤ 32) := fun m => Nat.le_trans (unL_len t.id t.U t.n rs m) hq32
  have htl : tb < w.heap.size := Go.block_lt_of_cell hC.1
  have hBl : B < w.heap.size := Go.block_lt_of_cell hI.box.1
  obtain ⟨c0, c1, c2, c3⟩ := hI.box
  obtain ⟨x0, x1, x2, x3, x4⟩ := hC
  have hj1 : (j : Int) < (p0 : Int) := by omega
  have hj0 : (0 : Int) ≤ (j : Int) := by omega
  clear hI hfz hU hUB hFit hh hr12 hq32
  go_enter Tryz.func27, Tryz.ntmps27
  go_wp2_with fail
  clear c0 c1 c2 c3 x0 x1 x2 x3 x4
  go_loopw [7, 8, 9] (fun i _ _ wr => ∃ m : Nat, m ≤ t.n - save ∧ i = .int .i64 ((t.n : Int) - 1 - m) ∧ ∃ ra rc q xs, Hid (RlI w wr B nx ck (.slice (some ⟨tb, toff, none⟩) p0 tc) t.id t.U t.n rs m lo ra rc q xs)) (fun i _ _ _ => (Go.RowKit.intOf i + 1 - save).toNat)
  case atStart => exact ⟨0, Nat.zero_le _, by go_num, ra0, rc0, q0, xs0, HI0⟩
  case round =>
    clear HI0
    obtain ⟨m, hm, rfl, ra, rc, q, xs, HI⟩ := hrel
    have hsr : w.heap.size ≤ wr.heap.size := HI.out.writes.size
    have HCr : Hid (CTx wr tb (toff + j * 5) t ua uc) := HC.out.block (HI.out.writes.block tb htl (by omega))
    by_cases hlt : m < t.n - save
    · obtain ⟨k, hk⟩ : ∃ k : Nat, (t.n : Int) - 1 - m = (k : Int) := ⟨t.n - 1 - m, by omega⟩
      have hkN : t.n - 1 - m = k := by omega
      have HKE : Hid ((t.n : Int) - 1 - ((m + 1 : Nat) : Int) = (k : Int) - 1) := by show _ = _; omega
      have HMM : Hid (m + 1 ≤ t.n - save) := hlt
      have hks : (save : Int) ≤ (k : Int) := by omega
      have hk0 : (0 : Int) ≤ (k : Int) := by omega
      have hkn : (k : Int) < (t.n : Int) := by omega
      have hkn2 : k < t.n := by omega
      have hmn : m < t.n := by omega
      rw [hk]
      have hFm := HFit.out m (by omega)
      rw [show t.n - m = k + 1 by omega, ← HI.out.data] at hFm
      obtain ⟨p, x0, hp, hpk, hn0, hfr⟩ := hFm.find
      rw [HI.out.len] at hfr
      have HFR : Hid (fR q (fun i => (xs.map HRw.t).getD i zRw) (t.U k).k = (p : Int)) := hfr
      have HPX : Hid (xs[p]? = some x0 ∧ x0.t.key = (t.U k).k) := ⟨hp, hpk⟩
      have HRI : Hid (RiRw xs) := hFm.rising
      have HPOS : Hid (∀ x ∈ xs, 0 < x.t.n) := fun x hx => hFm.pos _ (List.mem_map.2 ⟨x, hx, rfl⟩)
      have hq9 : q ≤ 32 := by have h9 := H32.out m; rw [← HI.out.data, List.length_map, HI.out.len] at h9; exact h9
      have hx12 : x0.t.n ≤ 12 := H12.out m _ (by rw [← HI.out.data]; exact List.mem_map.2 ⟨x0, List.mem_of_getElem? hp, rfl⟩)
      have hpq : p < q := by rw [← HI.out.len]; exact (List.getElem?_eq_some_iff.1 hp).1
      have hp1 : (p : Int) < (q : Int) := by omega
      have hp00 : (0 : Int) ≤ (p : Int) := by omega
      have hxc := HI.out.ct x0 (List.mem_of_getElem? hp)
      rcases HI.out.at_ with h | ⟨b, off, rfl, hbl, hcc⟩
      · rw [h] at hp; simp at hp
      obtain ⟨z0, z1⟩ := hcc p x0 hp
      have HVX : Hid (VersAt (wr.alloc (.cells #[.int .i64 (t.U k).k, .bool (t.U k).h, .bool (t.U k).g, .int .i64 (t.U k).v] 90)) x0.A x0.t.n x0.t.U) := hxc.2.2.at.below (below_new _ _)
      have HRW : Hid (RwsAt (wr.alloc (.cells #[.int .i64 (t.U k).k, .bool (t.U k).h, .bool (t.U k).g, .int .i64 (t.U k).v] 90)) (some ⟨b, off, none⟩) q (fun i => (xs.map HRw.t).getD i zRw)) := HI.out.rows.below (below_new _ _)
      obtain ⟨ub, uo, hua, hul, u0c, u1c, u2c, u3c⟩ : ∃ ub uo, ua = some ⟨ub, uo, none⟩ ∧ ub < wr.heap.size ∧ CU wr ub (uo + k * 4) (t.U k) := by
        rcases HU.out with h | ⟨ub, uo, e, hl, hc⟩
        · omega
        · exact ⟨ub, uo, e, by omega, (hc k hkn2).block (HI.out.writes.block ub hl (by have := HUB.out ub uo e; omega))⟩
      obtain ⟨x0c, x1c, x2c, x3c, x4c⟩ := HCr.out
      have HUA : Hid (ua = some ⟨ub, uo, none⟩) := hua
      rw [hua] at x4c
      obtain ⟨c0, c1, c2, c3⟩ := HI.out.box
      clear hcc hp hpk hfr hFm hua hk
      go_upto_region 5 with fail
      obtain ⟨W1, hW1⟩ : ∃ y, y = wr.alloc (.cells #[.int .i64 (t.U k).k, .bool (t.U k).h, .bool (t.U k).g, .int .i64 (t.U k).v] 90) := ⟨_, rfl⟩
      rw [← hW1] at HVX HRW ⊢
      have hb1 : Below wr.heap.size wr W1 := by rw [hW1]; exact below_new _ _
      have hzW : W1.heap.size = wr.heap.size + 1 := by rw [hW1]; exact World.size_alloc _ _
      have HBo : Hid (Box4 W1 wr.heap.size (.int .i64 (t.U k).k) (.bool (t.U k).h) (.bool (t.U k).g) (.int .i64 (t.U k).v)) := by rw [hW1]; exact Box4.new _ _ _ _ _ _
      replace c3 := cell_below c3 hb1
      replace z1 := cell_below z1 hb1
      replace x0c := cell_below x0c hb1
      have HB1 : Hid (Below wr.heap.size wr W1) := hb1
      obtain ⟨s0, s1, s2, s3⟩ := HBo.out
      clear hW1 hb1 z0 u0c u1c u2c u3c x1c x2c x3c x4c c0 c1 c2
      refine wp_region_E 999 (S := fun u => Below W1.heap.size W1 u) (by kernel_rfl) ((Below.refl _ _).drew) (fun hS => ?_)
      obtain ⟨u0, hu0⟩ : ∃ y, y = W1.drew := ⟨_, rfl⟩
      rw [← hu0] at hS ⊢
      clear hu0
      refine wpAnyE_takeD (L := 999) (i := 0) (v := .pointer (some ⟨B, 0, none⟩)) (some 34) rfl rfl (by kernel_rfl) (by kernel_rfl) (by kernel_rfl) (by kernel_rfl) (fun _ _ _ h => h) (Or.inl ⟨by kernel_rfl, by intro u hSu; go_simp⟩) hS ?_
      try simp only [Act.put, List.setIfInBounds_toArray, List.set_cons_zero, List.set_cons_succ]
      refine wpAnyE_takeD (L := 999) (i := 1) (v := .pointer (some ⟨B, 0, none⟩)) (some 35) rfl rfl (by kernel_rfl) (by kernel_rfl) (by kernel_rfl) (by kernel_rfl) (fun _ _ _ h => h) (Or.inl ⟨by kernel_rfl, by intro u hSu; go_simp⟩) hS ?_
      try simp only [Act.put, List.setIfInBounds_toArray, List.set_cons_zero, List.set_cons_succ]
      refine wpAnyE_takeD (L := 999) (i := 2) (v := .pointer (some ⟨B, 3, none⟩)) (some 36) rfl rfl (by kernel_rfl) (by kernel_rfl) (by kernel_rfl) (by kernel_rfl) (fun _ _ _ h => h) (Or.inl ⟨by kernel_rfl, by intro u hSu; go_simp⟩) hS ?_
      try simp only [Act.put, List.setIfInBounds_toArray, List.set_cons_zero, List.set_cons_succ]
      refine wpAnyE_takeD (L := 999) (i := 3) (v := .slice (some ⟨b, off, none⟩) q rc) (some 37) rfl rfl (by kernel_rfl) (by kernel_rfl) (by kernel_rfl) (by kernel_rfl) (fun _ _ _ h => h) (Or.inl ⟨by kernel_rfl, by intro u hSu; have gc3 := cell_below c3 hSu; go_simp⟩) hS ?_
      try simp only [Act.put, List.setIfInBounds_toArray, List.set_cons_zero, List.set_cons_succ]
      refine wpAnyE_takeD (L := 999) (i := 4) (v := .pointer (some ⟨B, 0, none⟩)) (some 38) rfl rfl (by kernel_rfl) (by kernel_rfl) (by kernel_rfl) (by kernel_rfl) (fun _ _ _ h => h) (Or.inl ⟨by kernel_rfl, by intro u hSu; go_simp⟩) hS ?_
      try simp only [Act.put, List.setIfInBounds_toArray, List.set_cons_zero, List.set_cons_succ]
      refine wpAnyE_takeD (L := 999) (i := 5) (v := .pointer (some ⟨wr.heap.size, 0, none⟩)) (some 39) rfl rfl (by kernel_rfl) (by kernel_rfl) (by kernel_rfl) (by kernel_rfl) (fun _ _ _ h => h) (Or.inl ⟨by kernel_rfl, by intro u hSu; go_simp⟩) hS ?_
      try simp only [Act.put, List.setIfInBounds_toArray, List.set_cons_zero, List.set_cons_succ]
      refine wpAnyE_takeD (L := 999) (i := 6) (v := .int .i64 (t.U k).k) (some 40) rfl rfl (by kernel_rfl) (by kernel_rfl) (by kernel_rfl) (by kernel_rfl) (fun _ _ _ h => h) (Or.inl ⟨by kernel_rfl, by intro u hSu; have gs0 := cell_below s0 hSu; go_simp⟩) hS ?_
      try simp only [Act.put, List.setIfInBounds_toArray, List.set_cons_zero, List.set_cons_succ]
      refine wpAnyE_ready (rs := [7]) (by kernel_rfl) (by simp) ?_
      refine AllReadyE.cons rfl (fun K9 hK => ?_) AllReadyE.nil
      go_simp
      refine (l6RowP q _ B (some ⟨b, off, none⟩) rc (t.U k).k _ p (by omega) HFR.out (cell_below c3 hS) (HRW.out.below hS)).mono ?_
      rintro e u1 ⟨rfl, hbu⟩
      refine hK.out _ _ (below_then hS hbu) (fun hS9 => ?_)
      try simp only [Act.put, List.setIfInBounds_toArray, List.set_cons_zero, List.set_cons_succ]
      clear hK K9 hS hbu
      have hS := hS9
      clear hS9
      refine wpAnyE_takeD (L := 999) (i := 8) (v := .pointer (some ⟨b, off + p * 2, none⟩)) (some 42) rfl rfl (by kernel_rfl) (by kernel_rfl) (by kernel_rfl) (by kernel_rfl) (fun _ _ _ h => h) (Or.inl ⟨by kernel_rfl, by intro u hSu; go_simp⟩) hS ?_
      try simp only [Act.put, List.setIfInBounds_toArray, List.set_cons_zero, List.set_cons_succ]
      refine wpAnyE_takeD (L := 999) (i := 9) (v := .pointer (some ⟨b, off + p * 2 + 1, none⟩)) (some 43) rfl rfl (by kernel_rfl) (by kernel_rfl) (by kernel_rfl) (by kernel_rfl) (fun _ _ _ h => h) (Or.inl ⟨by kernel_rfl, by intro u hSu; go_simp⟩) hS ?_
      try simp only [Act.put, List.setIfInBounds_toArray, List.set_cons_zero, List.set_cons_succ]
      refine wpAnyE_takeD (L := 999) (i := 10) (v := .slice x0.A x0.t.n x0.c) (some 44) rfl rfl (by kernel_rfl) (by kernel_rfl) (by kernel_rfl) (by kernel_rfl) (fun _ _ _ h => h) (Or.inl ⟨by kernel_rfl, by intro u hSu; have gz1 := cell_below z1 hSu; go_simp⟩) hS ?_
      try simp only [Act.put, List.setIfInBounds_toArray, List.set_cons_zero, List.set_cons_succ]
      refine wpAnyE_ready (rs := [11]) (by kernel_rfl) (by simp) ?_
      refine AllReadyE.cons rfl (fun K9 hK => ?_) AllReadyE.nil
      go_simp
      refine (l5Copy_anyw x0.t.n x0.t.U x0.A x0.c _ (by omega) (HVX.out.below hS)).mono ?_
      rintro e u1 ⟨A, c, rfl, hbu, ho9, hle9⟩
      have HO9 : Hid (Own4 u1 _ u1.heap.size A x0.t.n x0.t.U) := ho9
      have hle8 : x0.t.n ≤ c := hle9
      have hzS := hS.size
      clear ho9 hle9
      refine hK.out _ _ (below_then hS hbu) (fun hS9 => ?_)
      try simp only [Act.put, List.setIfInBounds_toArray, List.set_cons_zero, List.set_cons_succ]
      clear hK K9 hS hbu
      have hS := hS9
      clear hS9
      refine wpAnyE_takeD (L := 999) (i := 12) (v := .slice A x0.t.n c) (some 9) rfl rfl (by kernel_rfl) (by kernel_rfl) (by kernel_rfl) (by kernel_rfl) (fun _ _ _ h => h) (Or.inl ⟨by kernel_rfl, by intro u hSu; go_simp⟩) hS ?_
      try simp only [Act.put, List.setIfInBounds_toArray, List.set_cons_zero, List.set_cons_succ]
      refine wpAnyE_done (by kernel_rfl) ?_ _
      go_simp
      have HBu : Hid (Below W1.heap.size W1 u1) := hS
      have hzu := hS.size
      have HBw : Hid (Below wr.heap.size wr u1) := below_then HB1.out hS
      obtain ⟨cbk, co, rfl, hcl, hch, -, hrow⟩ := own4_some HO9.out hn0
      have HRO : Hid (Row4 u1 cbk co x0.t.n x0.t.U) := hrow
      have HSE : Hid (∀ (u : World) (y : HRw), Below wr.heap.size wr u → y.t = tkR t.id (t.U k) x0.t → Calls Tryz.prog 51 #[.pointer (some ⟨B, 0, none⟩), .int .i64 (t.U k).k, .slice y.A y.t.n y.c] u (SeR B xs p y u)) := fun u y hb hy => by
        have h9 := HI.out.below hb
        have hyk : y.t.key = (t.U k).k := by rw [hy, tkR_key]; exact HPX.out.2
        have := l6Set_any B xs x0 y p q (some ⟨b, off, none⟩) rc u h9.len hq9 h9.box.2.2.2 (h9.frz 3) h9.at_ HRI.out HPX.out.1 (by rw [hyk]; exact HPX.out.2)
        rw [hyk] at this
        exact this
      have HST : Hid (∀ (u u2 : World) (y : HRw) (ra2 : Option Addr) (rc2 : Nat), Below wr.heap.size wr u → y.t = tkR t.id (t.U k) x0.t → y.l = wr.heap.size → y.h ≤ u.heap.size → y.t.n ≤ y.c → Own4 u y.l y.h y.A y.t.n y.t.U → Below u.heap.size u u2 → u2.ownsRow u.heap.size 87 2 (.slice ra2 (setH xs p y).length rc2) (setH xs p y).length (hbRw (setH xs p y)) →
          RlI w (u2.setCell ⟨B, 3, none⟩ (.slice ra2 (setH xs p y).length rc2)) B nx ck (.slice (some ⟨tb, toff, none⟩) p0 tc) t.id t.U t.n rs (m + 1) lo ra2 rc2 (setH xs p y).length (setH xs p y)) := fun u u2 y ra2 rc2 hb hy hyl hyh hyc hyo hb2 ho =>
        HI.out.step hb hb2 (by omega) hmn HPOS.out HRI.out HPX.out.1 (by rw [hkN]; exact HPX.out.2) (by rw [hkN]; exact hy) hyl hyh hyc hyo rfl ho
      replace s0 := cell_below s0 hS
      replace s1 := cell_below s1 hS
      replace s2 := cell_below s2 hS
      replace s3 := cell_below s3 hS
      have y0 := cell_below x0c hS
      clear hS c3 z1 x0c hrow
      cases hhad : (t.U k).h
      · have HTK : Hid (tkR t.id (t.U k) x0.t = ⟨x0.t.key, x0.t.n - 1, fun i => x0.t.U (i + 1)⟩) := by unfold tkR; rw [Hid, if_neg (by simp [hhad])]
        rw [hhad] at s1
        by_cases hc1 : c = 1
        · subst hc1
          have hx1 : x0.t.n = 1 := by omega
          have HY : Hid (tkR t.id (t.U k) x0.t = ⟨x0.t.key, 0, fun i => x0.t.U (i + 1)⟩) := by rw [Hid, HTK.out, hx1]
          have HSET : Hid (Calls Tryz.prog 51 #[.pointer (some ⟨B, 0, none⟩), .int .i64 (t.U k).k, .slice (some ⟨cbk, co, none⟩) 0 0] u1 (SeR B xs p ⟨tkR t.id (t.U k) x0.t, some ⟨cbk, co, none⟩, 0, wr.heap.size, u1.heap.size⟩ u1)) := by
            have h9 := HSE.out u1 ⟨tkR t.id (t.U k) x0.t, some ⟨cbk, co, none⟩, 0, wr.heap.size, u1.heap.size⟩ HBw.out rfl
            have e9 : (tkR t.id (t.U k) x0.t).n = 0 := by rw [HY.out]
            dsimp only at h9
            rw [e9] at h9
            exact h9
          have HSU : Hid (∀ u2 ra2 rc2, Below u1.heap.size u1 u2 → _) := fun u2 ra2 rc2 hb2 ho => HST.out u1 u2 ⟨tkR t.id (t.U k) x0.t, some ⟨cbk, co, none⟩, 0, wr.heap.size, u1.heap.size⟩ ra2 rc2 HBw.out rfl rfl (Nat.le_refl _) (by rw [HY.out]; exact Nat.le_refl _) (by rw [HY.out]; exact ⟨Nat.le_refl _, .inl rfl⟩) hb2 ho
          rw [hx1]
          clear HTK HY HSE HST HRO hn0 hx12
          go_wp2_with (first | (go_at_call 51; refine Calls.mono HSET.out ?_; rintro e w9 ⟨rfl, v9, u2, hb2, hw9, ho9⟩; obtain ⟨ra2, rc2, rfl, -, -⟩ := HAtRw.of_row rfl ho9; have HI9 := HSU.out u2 ra2 rc2 hb2 ho9; rw [← hw9] at HI9; have HI2 : Hid (RlI w w9 B nx ck (.slice (some ⟨tb, toff, none⟩) p0 tc) t.id t.U t.n rs (m + 1) lo ra2 rc2 _ _) := HI9; clear hw9 ho9 hb2 HI9))
          go_roundw
          case rel => exact ⟨m + 1, HMM.out, by rw [HKE.out] <;> go_num, _, _, _, _, HI2⟩
          case measure => simp [Go.RowKit.intOf]; have := HKE.out; omega
        · have h2 : ¬ ((1 : Int) = (c : Int)) := by omega
          have h3 : ¬ ((c : Int) = 1) := by omega
          have h5 : (1 : Int) < (c : Int) := by omega
          have hx1 : (1 : Int) ≤ (x0.t.n : Int) := by omega
          have hx2 : (x0.t.n : Int) ≤ (c : Int) := by omega
          have HSET : Hid (Calls Tryz.prog 51 #[.pointer (some ⟨B, 0, none⟩), .int .i64 (t.U k).k, .slice (some ⟨cbk, co + 4, none⟩) (x0.t.n - 1) (c - 1)] u1 (SeR B xs p ⟨tkR t.id (t.U k) x0.t, some ⟨cbk, co + 4, none⟩, c - 1, wr.heap.size, u1.heap.size⟩ u1)) := by
            have h9 := HSE.out u1 ⟨tkR t.id (t.U k) x0.t, some ⟨cbk, co + 4, none⟩, c - 1, wr.heap.size, u1.heap.size⟩ HBw.out rfl
            have e9 : (tkR t.id (t.U k) x0.t).n = x0.t.n - 1 := by rw [HTK.out]
            dsimp only at h9
            rw [e9] at h9
            exact h9
          have HSU : Hid (∀ u2 ra2 rc2, Below u1.heap.size u1 u2 → _) := fun u2 ra2 rc2 hb2 ho => HST.out u1 u2 ⟨tkR t.id (t.U k) x0.t, some ⟨cbk, co + 4, none⟩, c - 1, wr.heap.size, u1.heap.size⟩ ra2 rc2 HBw.out rfl rfl (Nat.le_refl _) (by rw [HTK.out]; show x0.t.n - 1 ≤ c - 1; omega) (by rw [HTK.out]; exact own4_tail (Nat.le_refl _) (by show wr.heap.size ≤ cbk; omega) hch HRO.out) hb2 ho
          clear HTK HSE HST HRO
          go_wp2_with (first | (go_at_call 51; refine Calls.mono HSET.out ?_; rintro e w9 ⟨rfl, v9, u2, hb2, hw9, ho9⟩; obtain ⟨ra2, rc2, rfl, -, -⟩ := HAtRw.of_row rfl ho9; have HI9 := HSU.out u2 ra2 rc2 hb2 ho9; rw [← hw9] at HI9; have HI2 : Hid (RlI w w9 B nx ck (.slice (some ⟨tb, toff, none⟩) p0 tc) t.id t.U t.n rs (m + 1) lo ra2 rc2 _ _) := HI9; clear hw9 ho9 hb2 HI9))
          go_roundw
          case rel => exact ⟨m + 1, HMM.out, by rw [HKE.out] <;> go_num, _, _, _, _, HI2⟩
          case measure => simp [Go.RowKit.intOf]; have := HKE.out; omega
      · have HTK : Hid (tkR t.id (t.U k) x0.t = ⟨x0.t.key, x0.t.n, fun i => if i = 0 then ⟨t.id, 0, (t.U k).g, (t.U k).v⟩ else x0.t.U i⟩) := by unfold tkR; rw [Hid, if_pos hhad]
        rw [hhad] at s1
        have hn1 : (0 : Int) < (x0.t.n : Int) := by omega
        go_upto_region 7 with fail
        · have hrow := HRO.out
          refine wp_region_E 11 (S := fun u => Below u1.heap.size u1 u) (by kernel_rfl) ((Below.refl _ _).drew) (fun hS => ?_)
          obtain ⟨u0, hu0⟩ : ∃ y, y = u1.drew := ⟨_, rfl⟩
          rw [← hu0] at hS ⊢
          clear hu0
          refine wpAnyE_takeD (L := 11) (i := 0) (v := .slice (some ⟨cbk, co, none⟩) x0.t.n c) (some 48) rfl rfl (by kernel_rfl) (by kernel_rfl) (by kernel_rfl) (by kernel_rfl) (fun _ _ _ h => h) (Or.inl ⟨by kernel_rfl, by intro u hSu; go_simp⟩) hS ?_
          try simp only [Act.put, List.setIfInBounds_toArray, List.set_cons_zero, List.set_cons_succ]
          refine wpAnyE_takeD (L := 11) (i := 1) (v := .pointer (some ⟨tb, toff + j * 5, none⟩)) (some 49) rfl rfl (by kernel_rfl) (by kernel_rfl) (by kernel_rfl) (by kernel_rfl) (fun _ _ _ h => h) (Or.inl ⟨by kernel_rfl, by intro u hSu; go_simp⟩) hS ?_
          try simp only [Act.put, List.setIfInBounds_toArray, List.set_cons_zero, List.set_cons_succ]
          refine wpAnyE_takeD (L := 11) (i := 2) (v := .pointer (some ⟨tb, toff + j * 5, none⟩)) (some 50) rfl rfl (by kernel_rfl) (by kernel_rfl) (by kernel_rfl) (by kernel_rfl) (fun _ _ _ h => h) (Or.inl ⟨by kernel_rfl, by intro u hSu; go_simp⟩) hS ?_
          try simp only [Act.put, List.setIfInBounds_toArray, List.set_cons_zero, List.set_cons_succ]
          refine wpAnyE_takeD (L := 11) (i := 3) (v := .pointer (some ⟨tb, toff + j * 5, none⟩)) (some 51) rfl rfl (by kernel_rfl) (by kernel_rfl) (by kernel_rfl) (by kernel_rfl) (fun _ _ _ h => h) (Or.inl ⟨by kernel_rfl, by intro u hSu; go_simp⟩) hS ?_
          try simp only [Act.put, List.setIfInBounds_toArray, List.set_cons_zero, List.set_cons_succ]
          refine wpAnyE_takeD (L := 11) (i := 4) (v := .int .i64 t.id) (some 52) rfl rfl (by kernel_rfl) (by kernel_rfl) (by kernel_rfl) (by kernel_rfl) (fun _ _ _ h => h) (Or.inl ⟨by kernel_rfl, by intro u hSu; have gy0 := cell_below y0 hSu; go_simp⟩) hS ?_
          try simp only [Act.put, List.setIfInBounds_toArray, List.set_cons_zero, List.set_cons_succ]
          refine wpAnyE_takeD (L := 11) (i := 5) (v := .pointer (some ⟨wr.heap.size, 2, none⟩)) (some 53) rfl rfl (by kernel_rfl) (by kernel_rfl) (by kernel_rfl) (by kernel_rfl) (fun _ _ _ h => h) (Or.inl ⟨by kernel_rfl, by intro u hSu; go_simp⟩) hS ?_
          try simp only [Act.put, List.setIfInBounds_toArray, List.set_cons_zero, List.set_cons_succ]
          refine wpAnyE_takeD (L := 11) (i := 6) (v := .bool (t.U k).g) (some 54) rfl rfl (by kernel_rfl) (by kernel_rfl) (by kernel_rfl) (by kernel_rfl) (fun _ _ _ h => h) (Or.inl ⟨by kernel_rfl, by intro u hSu; have gs2 := cell_below s2 hSu; go_simp⟩) hS ?_
          try simp only [Act.put, List.setIfInBounds_toArray, List.set_cons_zero, List.set_cons_succ]
          refine wpAnyE_takeD (L := 11) (i := 7) (v := .pointer (some ⟨wr.heap.size, 3, none⟩)) (some 55) rfl rfl (by kernel_rfl) (by kernel_rfl) (by kernel_rfl) (by kernel_rfl) (fun _ _ _ h => h) (Or.inl ⟨by kernel_rfl, by intro u hSu; go_simp⟩) hS ?_
          try simp only [Act.put, List.setIfInBounds_toArray, List.set_cons_zero, List.set_cons_succ]
          refine wpAnyE_takeD (L := 11) (i := 8) (v := .int .i64 (t.U k).v) (some 56) rfl rfl (by kernel_rfl) (by kernel_rfl) (by kernel_rfl) (by kernel_rfl) (fun _ _ _ h => h) (Or.inl ⟨by kernel_rfl, by intro u hSu; have gs3 := cell_below s3 hSu; go_simp⟩) hS ?_
          try simp only [Act.put, List.setIfInBounds_toArray, List.set_cons_zero, List.set_cons_succ]
          refine wpAnyE_takeD (L := 11) (i := 9) (v := .agg #[.int .i64 t.id, .int .i64 0, .bool (t.U k).g, .int .i64 (t.U k).v]) (some 57) rfl rfl (by kernel_rfl) (by kernel_rfl) (by kernel_rfl) (by kernel_rfl) (fun _ _ _ h => h) (Or.inl ⟨by kernel_rfl, by intro u hSu; go_simp⟩) hS ?_
          try simp only [Act.put, List.setIfInBounds_toArray, List.set_cons_zero, List.set_cons_succ]
          refine wpAnyE_ready (rs := [10]) (by kernel_rfl) (by simp) ?_
          refine AllReadyE.cons rfl (fun K9 hK => ?_) AllReadyE.nil
          go_simp
          refine hK.out _ _ (hS) (fun hS9 => ?_)
          try simp only [Act.put, List.setIfInBounds_toArray, List.set_cons_zero, List.set_cons_succ]
          clear hK K9 hS
          have hS := hS9
          clear hS9
          refine wpAnyE_ready (rs := [11]) (by kernel_rfl) (by simp) ?_
          refine AllReadyE.last rfl (fun K9 hK => ?_)
          obtain ⟨z0, z1, z2, z3⟩ := (hrow.1 0 hn0).block (hS.block cbk (by omega))
          rw [Nat.zero_mul, Nat.add_zero] at z0 z1 z2 z3
          have zf : ∀ i, u0.frozen? ⟨cbk, i, none⟩ = false := fun i => (World.frozen?_of_block (w := u1) (a := ⟨cbk, i, none⟩) (hS.block cbk (by omega))).trans (hrow.2 i)
          have HBS : Hid (Below u1.heap.size u1 u0) := hS
          go_simp
          refine hK.out _ _ ?_
          obtain ⟨S7, hS7⟩ : ∃ y, y = set4 u0 cbk co ⟨t.id, 0, (t.U k).g, (t.U k).v⟩ := ⟨_, rfl⟩
          have hS7b := hS7
          unfold set4 at hS7b
          dsimp only at hS7b
          rw [← hS7b]
          clear hK K9 hS z0 z1 z2 z3 zf hS7b
          have hzS7 : S7.heap.size = u0.heap.size := by rw [hS7]; exact set4_size
          have HBS7 : Hid (Below wr.heap.size wr S7) := by rw [hS7]; exact set4_below (below_then HBw.out HBS.out) (by omega)
          have HO7 : Hid (Row4 S7 cbk co x0.t.n (fun i => if i = 0 then ⟨t.id, 0, (t.U k).g, (t.U k).v⟩ else x0.t.U i)) := by
            have h9 := row4_set (r := ⟨t.id, 0, (t.U k).g, (t.U k).v⟩) hn0 (row4_block HRO.out (HBS.out.block cbk (by omega)))
            rw [Nat.zero_mul, Nat.add_zero, ← hS7] at h9
            exact h9
          have hzb := HBS.out.size
          obtain ⟨s0b, s1b, s2b, s3b⟩ : Box4 S7 wr.heap.size (.int .i64 (t.U k).k) (.bool true) (.bool (t.U k).g) (.int .i64 (t.U k).v) := by
            have hw7 : Writes cbk (cbk + 1) u0 S7 := by rw [hS7]; exact set4_writes (Writes.refl _ _ _) (Nat.le_refl _) (Nat.lt_succ_self _)
            exact Box4.writes ((show Box4 u1 wr.heap.size _ _ _ _ from ⟨s0, s1, s2, s3⟩).below HBS.out) hw7 (.inl (by omega))
          clear hS7 hrow s0 s1 s2 s3
          refine wpAnyE_done (by kernel_rfl) ?_ _
          go_simp
          have HSET : Hid (Calls Tryz.prog 51 #[.pointer (some ⟨B, 0, none⟩), .int .i64 (t.U k).k, .slice (some ⟨cbk, co, none⟩) x0.t.n c] S7 (SeR B xs p ⟨tkR t.id (t.U k) x0.t, some ⟨cbk, co, none⟩, c, wr.heap.size, u1.heap.size⟩ S7)) := by
            have h9 := HSE.out S7 ⟨tkR t.id (t.U k) x0.t, some ⟨cbk, co, none⟩, c, wr.heap.size, u1.heap.size⟩ HBS7.out rfl
            have e9 : (tkR t.id (t.U k) x0.t).n = x0.t.n := by rw [HTK.out]
            dsimp only at h9
            rw [e9] at h9
            exact h9
          have HSU : Hid (∀ u2 ra2 rc2, Below S7.heap.size S7 u2 → _) := fun u2 ra2 rc2 hb2 ho => HST.out S7 u2 ⟨tkR t.id (t.U k) x0.t, some ⟨cbk, co, none⟩, c, wr.heap.size, u1.heap.size⟩ ra2 rc2 HBS7.out rfl rfl (by show u1.heap.size ≤ S7.heap.size; omega) (by rw [HTK.out]; exact hle8) (by rw [HTK.out]; exact ⟨by show u1.heap.size ≤ S7.heap.size; omega, .inr ⟨cbk, co, rfl, by show wr.heap.size ≤ cbk; omega, hch, HO7.out⟩⟩) hb2 ho
          clear HTK HSE HST HRO
          go_wp2_with (first | (go_at_call 51; refine Calls.mono HSET.out ?_; rintro e w9 ⟨rfl, v9, u2, hb2, hw9, ho9⟩; obtain ⟨ra2, rc2, rfl, -, -⟩ := HAtRw.of_row rfl ho9; have HI9 := HSU.out u2 ra2 rc2 hb2 ho9; rw [← hw9] at HI9; have HI2 : Hid (RlI w w9 B nx ck (.slice (some ⟨tb, toff, none⟩) p0 tc) t.id t.U t.n rs (m + 1) lo ra2 rc2 _ _) := HI9; clear hw9 ho9 hb2 HI9))
          go_roundw
          case rel => exact ⟨m + 1, HMM.out, by rw [HKE.out] <;> go_num, _, _, _, _, HI2⟩
          case measure => simp [Go.RowKit.intOf]; have := HKE.out; omega
    · have hmn : m = t.n - save := by omega
      have hnl : ¬ ((save : Int) ≤ (t.n : Int) - 1 - (m : Int)) := by omega
      obtain ⟨x0, x1, x2, x3, x4⟩ := HCr.out
      have xf : ∀ i, wr.frozen? ⟨tb, i, none⟩ = false := fun i => (World.frozen?_of_block (w := w) (a := ⟨tb, i, none⟩) (HI.out.writes.block tb htl (by omega))).trans (HFZ.out i)
      have HF : Hid (RoR B tb (toff + j * 5) ua save uc nx ck (.slice (some ⟨tb, toff, none⟩) p0 tc) t rs lo w (.returned (.tuple #[])) (wr.setCell ⟨tb, toff + j * 5 + 4, none⟩ (.slice ua save uc))) := ⟨rfl, wr, ra, rc, q, xs, by rw [← hmn]; exact HI.out, rfl⟩
      have hs1 : (save : Int) ≤ (uc : Int) := by omega
      have hs0 : (0 : Int) ≤ (save : Int) := by omega
      clear hmn HI
      go_wp2_with fail
      go_end0
      exact HF.out
end Go.Proofs.YtabkgncnanlapaaGreat
