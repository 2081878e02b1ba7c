/- spec.CrashDisk. -/
import Derived.Test.YtldnfiadafmomaaGreatQCr
import Derived.Test.YtldnfiadafmomaaGreatQSy2
import Derived.BigQuiet
import Derived.Deep.RegionHeld3
namespace Go.Proofs.YtldnfiadafmomaaGreat
open Go.RowKit Go.Deep
set_option linter.unusedVariables false
set_option maxRecDepth 20000

theorem stl_succ (D : Dk) (F : Nat → Int) (k : Nat) : stl D F (k + 1) = lay (stl D F k) (D.P (F k).toNat) (D.T (F k).toNat) (D.Y (F k).toNat) := rfl
theorem rsf_one {F : Nat → Int} {n : Nat} (h : 0 < n) : rsf F n 0 = rsf F (n - 1) 1 := by
  have : n = (n - 1) + 1 := by omega
  rw [this, rsf, if_neg (by omega)]; simp
theorem l2Do_drew (Bd n p t : Nat) (Z : Nat → Nat → Int) (y : Nat → Int) (av ai : Option Addr) (cv ci lo hi : Nat) (w : World) (hp : p < n) (hn : n ≤ 8) (ht : t < 3)
    (hB : w.cell? ⟨Bd, 0, none⟩ = some (.slice av n cv)) (hBl : Bd < lo ∨ hi ≤ Bd) (ho : OwnP w lo hi av n (fun _ => 48) Z) (hy : ∃ ba oa, ai = some ⟨ba, oa, none⟩ ∧ (ba < lo ∨ hi ≤ ba) ∧ ∀ i, i < 16 → w.cell? ⟨ba, oa + i, none⟩ = some (.int .u8 (y i))) :
    Calls Tryz.prog 54 #[.pointer (some ⟨Bd, 0, none⟩), .agg #[.int .i64 p, .int .i64 t, .slice ai 16 ci]] w.drew fun e w' => e = .returned (.tuple #[]) ∧ Writes lo hi w w' ∧ OwnP w' lo hi av n (fun _ => 48) (lay Z p t y) := by
  refine (l2Do_any Bd n p t Z y av ai cv ci lo hi w.drew hp hn ht hB hBl (ho.below ((Below.refl _ _).drew)) hy).mono ?_
  rintro e w' ⟨he, hw, hop⟩
  exact ⟨he, ⟨hw.os, hw.tape, hw.output, hw.size, hw.block⟩, hop⟩
theorem quiet_facts {w w1 wr : World} (h : ∃ m, wr = w1.drewN m) (hb : Below w.heap.size w w1) : (∀ b o v, w1.cell? ⟨b, o, none⟩ = some v → wr.cell? ⟨b, o, none⟩ = some v) ∧ (∀ b o, wr.frozen? ⟨b, o, none⟩ = w1.frozen? ⟨b, o, none⟩) ∧ wr.heap.size = w1.heap.size ∧ Hid (Below w.heap.size w wr) := by
  obtain ⟨m, rfl⟩ := h
  exact ⟨fun _ _ _ h => h, fun _ _ => rfl, rfl, below_drewN hb _⟩
theorem quiet_more {w1 wr : World} {n : Nat} (h : ∃ m, wr = w1.drewN m) : Hid (∃ m, wr.drewN n = w1.drewN m) := by
  obtain ⟨m, rfl⟩ := h
  exact ⟨_, World.drewN_drewN ..⟩
set_option maxHeartbeats 4000000 in
theorem specCrash_any (D : Dk) (k3 : Nat) (F : Nat → Int) (a a' a3 : Option Addr) (cap cap' cap3 : Nat) (w : World) (hs : Small D) (hk : k3 ≤ 1048576) (h : DiskAt w a a' D) (h3 : IntsAt w a3 k3 F) :
    Calls Tryz.prog 23 #[.agg #[.slice a D.n cap, .slice a' D.m cap'], .slice a3 k3 cap3] w (SRd (crC D k3 F) (syD D F k3) w) := by
  have hb0 : ∀ o1 o2, Below w.heap.size w ((w.alloc o1).alloc o2) := fun o1 o2 => ((Below.refl _ _).alloc (Nat.le_refl _) _).alloc (by simp) _
  have HS : Hid (Small D) := hs
  have HA : Hid (DiskAt w a a' D) := h
  have H3 : Hid (IntsAt w a3 k3 F) := h3
  have hm := hs.m
  clear hs h h3
  by_cases hf : df D = 0
  · have HG : Hid (GoodD D) := goodD_of hf
    have hpl : crC D k3 F = (if inf F D.m k3 0 = true then (if rsf F k3 0 = true then 0 else 1) else 3) := by unfold crC; rw [if_pos hf]
    generalize hc : crC D k3 F = c at *
    have HC : Hid (c = (if inf F D.m k3 0 = true then (if rsf F k3 0 = true then 0 else 1) else 3)) := hpl
    clear hpl hc
    go_enter Tryz.func23, Tryz.ntmps23
    go_wp2_with fail
    refine (specDf_any D a a' cap cap' _ HS.out (HA.out.below (hb0 _ _))).mono ?_
    rintro e w1 ⟨rfl, hb1⟩
    rw [hf]
    obtain ⟨hcc, hff⟩ := bcell hb1
    have hz : w.heap.size + 1 < w1.heap.size := by have := hb1.size; simp at this; omega
    have q0 : w1.cell? ⟨w.heap.size, 0, none⟩ = some (.slice a D.n cap) := by rw [hcc _ _ (by simp <;> omega)]; simp [go_sem]
    have q1 : w1.cell? ⟨w.heap.size, 1, none⟩ = some (.slice a' D.m cap') := by rw [hcc _ _ (by simp <;> omega)]; simp [go_sem]
    have r0 : w1.cell? ⟨w.heap.size + 1, 0, none⟩ = some (.int .i64 0) := by rw [hcc _ _ (by simp <;> omega)]; simp [go_sem]
    have r1 : w1.cell? ⟨w.heap.size + 1, 1, none⟩ = some (.slice none 0 0) := by rw [hcc _ _ (by simp <;> omega)]; simp [go_sem]
    have r2 : w1.cell? ⟨w.heap.size + 1, 2, none⟩ = some (.slice none 0 0) := by rw [hcc _ _ (by simp <;> omega)]; simp [go_sem]
    have fz : ∀ i, w1.frozen? ⟨w.heap.size + 1, i, none⟩ = false := fun i => by rw [hff _ _ (by simp <;> omega)]; simp [go_sem]
    have HB1 : Hid (Below w.heap.size w w1) := below_then (hb0 _ _) hb1
    clear hcc hff hb1 hb0
    go_wp2_with fail
    go_loopw [6] (fun i wr => ∃ k : Nat, k ≤ k3 ∧ i = .int .i64 k ∧ Hid (inf F D.m k3 0 = inf F D.m (k3 - k) k) ∧ Hid (∃ m, wr = w1.drewN m)) (fun i _ => k3 - (intOf i).toNat)
    case atStart => exact ⟨0, Nat.zero_le _, rfl, rfl, ⟨0, rfl⟩⟩
    case round =>
      obtain ⟨k, hk0, rfl, HI, HM⟩ := hrel
      obtain ⟨cw, fw, sw, HBw⟩ := quiet_facts HM.out HB1.out
      have q1w := cw _ _ _ q1
      have r0w := cw _ _ _ r0
      have r1w := cw _ _ _ r1
      have r2w := cw _ _ _ r2
      have fzw : ∀ i, wr.frozen? ⟨w.heap.size + 1, i, none⟩ = false := fun i => (fw _ _).trans (fz i)
      by_cases hlt : k < k3
      · rcases H3.out.below HBw.out with h | ⟨b3, o3, rfl, hl3, hc3⟩
        · omega
        have h3k := hc3 k hlt
        clear cw fw sw
        have hlt' : (k : Int) < (k3 : Int) := by omega
        have HD : Hid (inf F D.m k3 0 = _) := HI.out.trans (inf_at hlt)
        have hw1 : IntKind.i64.wrap ((D.m : Int) - 1) = (D.m : Int) - 1 := by rw [IntKind.wrap_i64]; omega
        clear HI hc3
        by_cases hin : inB (F k) 0 ((D.m : Int) - 1) = true
        · have HI : Hid (inf F D.m k3 0 = inf F D.m (k3 - (k + 1)) (k + 1)) := HD.out.trans (if_pos hin)
          clear HD
          go_wp2_with fail
          go_quiet (first | (go_at_call 50; exact Calls.quiet_of (l1In_q _ _ _ _)))
          go_wp2_with fail
          go_roundw
          case rel => exact ⟨k + 1, hlt, by go_num, HI, quiet_more HM.out⟩
          case measure => simp [intOf]; omega
        · have HI : Hid (inf F D.m k3 0 = false) := HD.out.trans (if_neg hin)
          have hin' : inB (F k) 0 ((D.m : Int) - 1) = false := by simpa using hin
          have HC2 : Hid (c = 3) := by have h := HC.out; rw [HI.out, if_neg (by simp)] at h; exact h
          clear HD HC hin
          go_wp2_with fail
          go_quiet (first | (go_at_call 50; exact Calls.quiet_of (l1In_q _ _ _ _)))
          go_wp2_with fail
          rw [HC2.out]
          refine bodyPost_ret (v := .agg #[.int .i64 3, .slice none 0 0, .slice none 0 0]) (by simp [results, Tryz.results23, go_sem, *]) rfl ?_
          refine srd_bad ?_ (by decide)
          repeat (first | exact HBw.out | refine Below.setCell ?_ (by first | omega | (simp <;> omega)) _ | refine below_drewN ?_ _)
      · have HI0 : Hid (inf F D.m k3 0 = true) := by
          refine HI.out.trans ?_
          rw [show k3 - k = 0 by omega, inf]
        have HFI : Hid (∀ i, i < k3 → 0 ≤ F i ∧ F i < D.m) := fun i hi => inf_all k3 0 HI0.out i (by omega) (by omega)
        clear HI
        go_wp2_with fail
        go_loopw [7] (fun i wr => ∃ j : Nat, 1 ≤ j ∧ j ≤ k3 + 1 ∧ i = .int .i64 j ∧ Hid (rsf F k3 0 = rsf F (k3 - j) j) ∧ Hid (∃ m, wr = w1.drewN m)) (fun i _ => k3 - (intOf i).toNat)
        case atStart =>
          refine ⟨1, Nat.le_refl _, by omega, rfl, ?_, HM⟩
          show rsf F k3 0 = _
          by_cases e : k3 = 0
          · subst e; rfl
          · exact rsf_one (by omega)
        case round =>
          obtain ⟨j, hj1, hj2, rfl, HR, HM2⟩ := hrel
          obtain ⟨cw, fw, sw, HBw⟩ := quiet_facts HM2.out HB1.out
          have q0w := cw _ _ _ q0
          have q1w := cw _ _ _ q1
          have r0w := cw _ _ _ r0
          have r1w := cw _ _ _ r1
          have r2w := cw _ _ _ r2
          have fzw : ∀ i, wr.frozen? ⟨w.heap.size + 1, i, none⟩ = false := fun i => (fw _ _).trans (fz i)
          by_cases hlt2 : j < k3
          · rcases H3.out.below HBw.out with h | ⟨b3, o3, rfl, hl3, hc3⟩
            · omega
            clear cw fw sw
            have h3j := hc3 j hlt2
            have h3p := hc3 (j - 1) (by omega)
            have hlt' : (j : Int) < (k3 : Int) := by omega
            have hw : IntKind.i64.wrap ((j : Int) - 1) = (j : Int) - 1 := by rw [IntKind.wrap_i64]; omega
            have hw3 : ((j : Int) - 1).toNat = j - 1 := by omega
            have i1 : (j : Int) - 1 < (k3 : Int) := by omega
            have i2 : 0 ≤ (j : Int) - 1 := by omega
            have HD : Hid (rsf F k3 0 = _) := HR.out.trans (rsf_at hlt2)
            clear HR hc3
            by_cases hle : F j ≤ F (j - 1)
            · have HR : Hid (rsf F k3 0 = false) := HD.out.trans (if_pos ⟨by omega, hle⟩)
              have HC2 : Hid (c = 1) := by have h := HC.out; rw [if_pos HI0.out, HR.out, if_neg (by simp)] at h; exact h
              clear HD HC
              go_wp2_with fail
              go_quiet (fail)
              go_wp2_with fail
              rw [HC2.out]
              refine bodyPost_ret (v := .agg #[.int .i64 1, .slice none 0 0, .slice none 0 0]) (by simp [results, Tryz.results23, go_sem, *]) rfl ?_
              refine srd_bad ?_ (by decide)
              repeat (first | exact HBw.out | refine Below.setCell ?_ (by first | omega | (simp <;> omega)) _ | refine below_drewN ?_ _)
            · have HR : Hid (rsf F k3 0 = rsf F (k3 - (j + 1)) (j + 1)) := HD.out.trans (if_neg (by omega))
              have hle' : decide (F j ≤ F (j - 1)) = false := by simp; omega
              clear HD
              go_wp2_with fail
              go_quiet (fail)
              go_wp2_with fail
              go_roundw
              case rel => exact ⟨j + 1, by omega, by omega, by go_num, HR, quiet_more HM2.out⟩
              case measure => simp [intOf]; omega
          · have HR0 : Hid (rsf F k3 0 = true) := by
              refine HR.out.trans ?_
              rw [show k3 - j = 0 by omega, rsf]
            have HC2 : Hid (c = 0) := by have h := HC.out; rw [if_pos HI0.out, if_pos HR0.out] at h; exact h
            clear HR HC
            have hzw : w.heap.size + 1 < wr.heap.size := by rw [sw]; exact hz
            clear cw fw sw q0 q1 r0 r1 r2 fz hz HB1 HM HM2
            obtain ⟨w2, hw2⟩ : ∃ x, x = wr := ⟨_, rfl⟩
            subst hw2
            go_wp2_with fail
            refine (l2Copy_any D.n D.m D.L D.Z D.P D.T D.M D.Y a a' cap cap' _ HG.out.n8 HG.out.m HG.out.L HG.out.M (HA.out.1.below HBw.out) (HA.out.2.below HBw.out)).mono ?_
            rintro e w4 ⟨av, cv, v0, mid, rfl, hb4, hmid, hop, hal⟩
            obtain ⟨va, vc, rfl, -, -⟩ := hal.own
            have hz4 : w2.heap.size ≤ w4.heap.size := hb4.size
            have q0 := cell_below q0w hb4
            have q1 := cell_below q1w hb4
            have r0 := cell_below r0w hb4
            have r1 := cell_below r1w hb4
            have r2 := cell_below r2w hb4
            have fz : ∀ i, w4.frozen? ⟨w.heap.size + 1, i, none⟩ = false := fun i => (hb4.frozen (p := ⟨w.heap.size + 1, i, none⟩) (by show w.heap.size + 1 < _; omega)).trans (fzw i)
            have HB4 : Hid (Below w.heap.size w w4) := below_then HBw.out hb4
            have HOP : Hid (OwnP w4 w2.heap.size mid av D.n (fun _ => 48) D.Z) := hop
            have hml : mid ≤ w4.heap.size := hop.1
            have hn8 := HG.out.n8
            clear hb4 hop hal q0w q1w r0w r1w r2w fzw HBw
            go_wp2_with fail
            go_loopw [9] (fun i wr => ∃ k : Nat, k ≤ k3 ∧ i = .int .i64 k ∧ Hid (Writes w2.heap.size mid (w4.alloc (.cells #[.slice av D.n cv, .slice va D.m vc] 37)) wr) ∧ Hid (OwnP wr w2.heap.size mid av D.n (fun _ => 48) (stl D F k))) (fun i _ => k3 - (intOf i).toNat)
            case atStart => exact ⟨0, by omega, rfl, Writes.refl _ _ _, HOP.out.below (below_new _ _)⟩
            case round =>
              obtain ⟨k, hk0, rfl, HW, HP⟩ := hrel
              have hsz : w4.heap.size + 1 ≤ wr.heap.size := by have := HW.out.size; rw [World.size_alloc] at this; exact this
              have cw : ∀ q o' v, (q < w2.heap.size ∨ mid ≤ q) → q < w4.heap.size + 1 → (w4.alloc (.cells #[.slice av D.n cv, .slice va D.m vc] 37)).cell? ⟨q, o', none⟩ = some v → wr.cell? ⟨q, o', none⟩ = some v := fun q o' v h1 h2 h3 => (HW.out.cell (by rw [World.size_alloc]; omega) (by omega) o').trans h3
              have bx := Box2.new w4 (.slice av D.n cv) (.slice va D.m vc) 37
              have p1 := cw _ _ _ (by omega) (by omega) (cell_alloc q1 _)
              have y0 := cw _ _ _ (by omega) (by omega) (cell_alloc r0 _)
              have y1 := cw _ _ _ (by omega) (by omega) (cell_alloc r1 _)
              have y2 := cw _ _ _ (by omega) (by omega) (cell_alloc r2 _)
              have b0 := cw _ _ _ (by omega) (by omega) bx.1
              have b1 := cw _ _ _ (by omega) (by omega) bx.2
              have HB : Hid (Below w.heap.size w wr) := (HB4.out.alloc HB4.out.size _).trans (below_of_writes HW.out (by omega) (by rw [World.size_alloc]; omega))
              by_cases hlt : k < k3
              · have hlt' : (k : Int) < (k3 : Int) := by omega
                rcases H3.out with h | ⟨b3, o3, rfl, hl3, hc3⟩
                · omega
                have h3k := (HB.out.cell (p := ⟨b3, o3 + k, none⟩) hl3).trans (hc3 k hlt)
                obtain ⟨f, hf'⟩ : ∃ f : Nat, F k = f := ⟨(F k).toNat, by have := HFI.out k hlt; omega⟩
                have hfm : f < D.m := by have := HFI.out k hlt; omega
                rcases HA.out.2 with h | ⟨b, off, rfl, hl, hc⟩
                · omega
                obtain ⟨h0, h1, ai, ci, h2, hy, hcap⟩ := hc f hfm
                rw [HG.out.M f hfm] at h2 hy
                obtain ⟨p, hp⟩ : ∃ p : Nat, D.P f = p := ⟨(D.P f).toNat, by have := HG.out.P f hfm; omega⟩
                obtain ⟨t, ht⟩ : ∃ t : Nat, D.T f = t := ⟨(D.T f).toNat, by have := HG.out.T f hfm; omega⟩
                have hpn : p < D.n := by have := HG.out.P f hfm; omega
                have ht3 : t < 3 := by have := HG.out.T f hfm; omega
                have HST : Hid (stl D F (k + 1) = lay (stl D F k) p t (D.Y f)) := by
                  show stl D F (k + 1) = _
                  rw [stl_succ, hf', Int.toNat_natCast, hp, ht]
                rw [hf'] at h3k
                rw [hp] at h0
                rw [ht] at h1
                have hc' : ∀ o v, w.cell? ⟨b, o, none⟩ = some v → wr.cell? ⟨b, o, none⟩ = some v := fun o v h => (HB.out.cell (p := ⟨b, o, none⟩) hl).trans h
                have h0' := hc' _ _ h0
                have h1' := hc' _ _ h1
                have h2' := hc' _ _ h2
                have HY : Hid (∃ ba oa, ai = some ⟨ba, oa, none⟩ ∧ (ba < w2.heap.size ∨ mid ≤ ba) ∧ ∀ i, i < 16 → wr.cell? ⟨ba, oa + i, none⟩ = some (.int .u8 (D.Y f i))) := by
                  rcases hy with h | ⟨ba, oa, e, hl, hc⟩
                  · omega
                  · exact ⟨ba, oa, e, .inl (by omega), fun i hi => (HB.out.cell (p := ⟨ba, oa + i, none⟩) hl).trans (hc i hi)⟩
                have hfm' : (f : Int) < (D.m : Int) := by omega
                have HT1 : Hid (∀ w', Writes w2.heap.size mid wr w' → w'.cell? ⟨w.heap.size, 1, none⟩ = some (.slice (some ⟨b, off, none⟩) D.m cap') ∧ w'.cell? ⟨b3, o3 + k, none⟩ = some (.int .i64 (f : Int)) ∧ w'.cell? ⟨b, off + f * 3, none⟩ = some (.int .i64 (p : Int)) ∧ w'.cell? ⟨b, off + f * 3 + 1, none⟩ = some (.int .i64 (t : Int)) ∧ w'.cell? ⟨b, off + f * 3 + 2, none⟩ = some (.slice ai 16 ci)) := fun w' h => ⟨(h.cell (by omega) (by omega) _).trans p1, (h.cell (by omega) (by omega) _).trans h3k, (h.cell (by omega) (by omega) _).trans h0', (h.cell (by omega) (by omega) _).trans h1', (h.cell (by omega) (by omega) _).trans h2'⟩
                generalize hZ : stl D F k = Zk at *
                clear hc hc3 hy hcap hc' h0 h1 h2 cw bx hp ht hf'
                go_wp2_with fail
                go_region_held3 (fun w' => w'.cell? ⟨w.heap.size, 1, none⟩ = some (.slice (some ⟨b, off, none⟩) D.m cap') ∧ w'.cell? ⟨b3, o3 + k, none⟩ = some (.int .i64 (f : Int)) ∧ w'.cell? ⟨b, off + f * 3, none⟩ = some (.int .i64 (p : Int)) ∧ w'.cell? ⟨b, off + f * 3 + 1, none⟩ = some (.int .i64 (t : Int)) ∧ w'.cell? ⟨b, off + f * 3 + 2, none⟩ = some (.slice ai 16 ci)) (first | go_keep)
                  (first | (go_at_call 54; refine (l2Do_drew w4.heap.size D.n p t Zk (D.Y f) av ai cv ci w2.heap.size mid wr hpn hn8 ht3 b0 (.inr hml) HP.out HY.out).mono ?_; rintro e w5 ⟨rfl, hw5, hop5⟩; obtain ⟨t1, t2, t3, t4, t5⟩ := HT1.out _ hw5))
                have HW5 : Hid (Writes w2.heap.size mid wr w5) := hw5
                have HP5 : Hid (OwnP w5 w2.heap.size mid av D.n (fun _ => 48) (lay Zk p t (D.Y f))) := hop5
                clear hw5 hop5 h0' h1' h2' p1 y0 y1 y2 b0 b1 t1 t2 t3 t4 t5 h3k
                go_wp2_with fail
                go_roundw
                case rel =>
                  refine ⟨k + 1, hlt, by go_num, HW.out.trans HW5.out, ?_⟩
                  show OwnP _ _ _ _ _ _ (stl D F (k + 1))
                  rw [HST.out]; exact HP5.out
                case measure => simp [intOf]; omega
              · have hkn : k = k3 := by omega
                have HP2 : Hid (OwnP wr w2.heap.size mid av D.n (fun _ => 48) (stl D F k3)) := by have h := HP.out; rw [hkn] at h; exact h
                have fy : ∀ i, wr.frozen? ⟨w.heap.size + 1, i, none⟩ = false := fun i => by
                  rw [World.frozen?_of_block (HW.out.block (w.heap.size + 1) (by rw [World.size_alloc]; omega) (by omega)), World.frozen?_alloc_past _ _ _ (by show w.heap.size + 1 < _; omega)]; exact fz i
                have fb : ∀ i, wr.frozen? ⟨w4.heap.size, i, none⟩ = false := fun i => by
                  rw [World.frozen?_of_block (HW.out.block w4.heap.size (by rw [World.size_alloc]; omega) (by omega))]; exact frozen_block (heap_alloc_last _ _)
                clear hkn HP cw bx q0 q1 r0 r1 r2 fz
                go_wp2_with fail
                rw [HC2.out]
                refine bodyPost_ret (v := .agg #[.int .i64 0, .slice av D.n cv, .slice none 0 0]) (by simp [results, Tryz.results23, go_sem, *]) rfl ?_
                have hw : ∀ w6 w7, Writes w4.heap.size (w4.heap.size + 1) wr w6 → Writes (w.heap.size + 1) (w.heap.size + 2) w6 w7 → OwnR w7 w.heap.size w7.heap.size av none (syD D F k3) := fun w6 w7 h6 h7 =>
                  ⟨((HP2.out.writes h6 (.inl hml)).writes h7 (.inr (by omega))).wide (by omega) (by have := h6.size; have := h7.size; omega) (Nat.le_refl _), ⟨Nat.le_refl _, .inl rfl⟩⟩
                refine ⟨av, none, cv, 0, rfl, ?_, hw (wr.setCell ⟨w4.heap.size, 1, none⟩ (.slice none 0 0)) _ ?_ ?_⟩
                · repeat (first | exact HB.out | refine Below.setCell ?_ (by first | omega | (simp <;> omega)) _)
                · exact Writes.setCell (Writes.refl _ _ _) (p := ⟨w4.heap.size, 1, none⟩) (Nat.le_refl _) (Nat.lt_succ_self _) _
                · repeat (first | exact Writes.refl _ _ _ | refine Writes.setCell ?_ (by first | omega | (simp <;> omega)) (by first | omega | (simp <;> omega)) _)
  · have hpl : crC D k3 F = df D := by unfold crC; rw [if_neg hf]
    rw [hpl]
    have hd : (df D != 0) = true := by simpa using hf
    have HNZ : Hid (df D ≠ 0) := hf
    clear hpl
    go_enter Tryz.func23, Tryz.ntmps23
    go_wp2_with fail
    refine (specDf_any D a a' cap cap' _ HS.out (HA.out.below (hb0 _ _))).mono ?_
    rintro e w1 ⟨rfl, hb1⟩
    obtain ⟨hcc, hff⟩ := bcell hb1
    generalize df D = c at *
    clear hf
    go_wp2_with fail
    refine bodyPost_ret (v := .agg #[.int .i64 c, .slice none 0 0, .slice none 0 0]) (by simp [results, Tryz.results23, go_sem, hcc]) rfl ?_
    refine srd_bad ?_ HNZ.out
    repeat (first | exact below_then (hb0 _ _) hb1 | refine Below.setCell ?_ (by first | omega | (simp <;> omega)) _)
end Go.Proofs.YtldnfiadafmomaaGreat
