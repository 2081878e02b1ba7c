/- spec.l4Walk. -/
import Derived.Test.YtbnehgpefjbheaaTnj
namespace Go.Proofs.Ytbnehgpefjbheaa
open Go.RowKit Go.Deep
set_option linter.unusedVariables false
set_option maxRecDepth 20000

set_option maxHeartbeats 8000000 in
theorem walkS (W0 : World) (tb n ca : Nat) (a : Option Addr) (T : Nat → Nd) (hn : n ≤ 60) (hG : GoodN T n) (htb : W0.cell? ⟨tb, 1, none⟩ = some (.slice a n ca)) (hA : NdsAt W0 a n T) :
    ∀ f (s : St) (L : List Int) (v : Value) (p : Nat) (lo hi d : Int) (w : World), Sg W0 n w s L v → p < n → s.cnt + unm s.met n = n → unm s.met n < f → 1 ≤ d → d + f ≤ 1000 →
    Calls Try.prog 44 #[.pointer (some ⟨tb, 0, none⟩), .pointer (some ⟨W0.heap.size, 0, none⟩), .int .i64 p, .int .i64 lo, .int .i64 hi, .int .i64 d] w (WkS W0 n w v (vis T f s p lo hi d)) := by
  have HG : Hid (GoodN T n) := hG
  have HA : Hid (NdsAt W0 a n T) := hA
  have HTB : Hid (W0.cell? ⟨tb, 1, none⟩ = some (.slice a n ca)) := htb
  clear hG hA htb
  intro f
  induction f with
  | zero => intro s L v p lo hi d w _ _ _ h; omega
  | succ f ih =>
    intro s L v p lo hi d w hH hp hinv hu hd1 hd2
    have IH : Hid (∀ (s : St) (L : List Int) (v : Value) (p : Nat) (lo hi d : Int) (w : World), Sg W0 n w s L v → p < n → s.cnt + unm s.met n = n → unm s.met n < f → 1 ≤ d → d + f ≤ 1000 → Calls Try.prog 44 #[.pointer (some ⟨tb, 0, none⟩), .pointer (some ⟨W0.heap.size, 0, none⟩), .int .i64 p, .int .i64 lo, .int .i64 hi, .int .i64 d] w (WkS W0 n w v (vis T f s p lo hi d))) := ih
    clear ih
    have HH : Hid (Sg W0 n w s L v) := hH
    have hpn : (p : Int) < (n : Int) := by omega
    have hp0 : (0 : Int) ≤ (p : Int) := by omega
    have hlen : L.length ≤ 60 := by have h1 := HH.out.len; omega
    obtain ⟨ga, gc, hva, hint⟩ := rowI_shape HH.out.own
    have HI : Hid (IntsAt w ga L.length (zI L)) := hint
    have g0 := HH.out.seen
    have g1 := HH.out.ld
    have g2 := HH.out.bad
    have gf := HH.out.frz
    have hmem := HH.out.mem p hp
    rw [hva] at g0
    have HVA : Hid (v = .slice ga L.length gc) := hva
    clear hH hint hva
    cases hm : s.met p
    case true =>
      have HV : Hid (vis T (f + 1) s p lo hi d = none) := by
        show vis T (f + 1) s p lo hi d = none
        unfold vis; rw [if_pos hm]
      have hdec : decide ((p : Int) ∈ L) = true := decide_eq_true (hmem.2 hm)
      clear hm hmem
      go_enter Try.func44, Try.ntmps44
      go_wp2_with fail
      refine (l1Has_any L ga gc p w (by omega) HI.out).mono ?_
      rintro e w' ⟨rfl, hw⟩
      have hw1 := hw.symm
      clear hw
      subst hw1
      rw [hdec]
      go_wp2_with fail
      (try simp only [Exit.inBlock, Exit.then])
      refine bodyPost_ret (results_none rfl _ _ _) rfl ?_
      exact WkS.no HV.out ((FrS.refl _ _ _).set _ _) HH.out.fall
    case false =>
      have HV0 : Hid (vis T (f + 1) s p lo hi d = if kyB (T p).K lo hi (T p).kn = false then none else if (T p).lf = true then (if s.ld = 0 ∨ s.ld = d then some ⟨upf s.met p true, s.cnt + 1, d⟩ else none) else kdl (fun s' q l h => vis T f s' q l h (d + 1)) (T p) lo hi (T p).dn (met1 s p)) := by
        show vis T (f + 1) s p lo hi d = _
        conv => lhs; unfold vis
        rw [if_neg (by rw [hm]; simp)]
      have hu1 := unm_upd hm n hp
      have hdec : decide ((p : Int) ∈ L) = false := decide_eq_false (fun x => by rw [hmem.1 x] at hm; exact absurd hm (by simp))
      clear hm hmem
      go_enter Try.func44, Try.ntmps44
      go_wp2_with fail
      refine (l1Has_any L ga gc p w (by omega) HI.out).mono ?_
      rintro e w' ⟨rfl, hw⟩
      have hw1 := hw.symm
      clear hw
      subst hw1
      rw [hdec]
      have HOW : Hid (∀ o : Obj, (w.alloc o).ownsRow (W0.heap.size + 1) 2 1 (.slice ga L.length gc) L.length (il L)) := fun o => by
        have h := (HH.out.mono (below_new w o)).own
        rw [HVA.out] at h
        exact h
      have HSZ : Hid (W0.heap.size < w.heap.size) := HH.out.size
      have G0 := fun o : Obj => cell_alloc g0 o
      clear hdec HI
      go_wp2_with (at_builtin; refine wpList_appIL _ rfl (.tmp 30) (.tmp 32) rfl (W0.heap.size + 1) _ L rfl (HOW.out _) w.heap.size 0 1 p rfl (by simp [go_sem]) (by have := HSZ.out; simp; omega) (by omega) ?_)
      intro g gcap w3 ho3 hg3 hl3 hlt3
      have hgn : some W0.heap.size ≠ (Value.slice ga L.length gc).ownBlock := fun e => by
        have h := HH.out.own
        rw [HVA.out] at h
        have := (ownI_lt h _ e.symm).1
        omega
      have hsw : W0.heap.size < (w.alloc (.cells #[.int .i64 (p : Int)] 2)).heap.size := by have := HSZ.out; simp; omega
      have z0 : w3.cell? ⟨W0.heap.size, 0, none⟩ = some (.slice ga L.length gc) := (World.cell?_of_block (a := ⟨W0.heap.size, 0, none⟩) (hg3.block _ hsw hgn)).trans (G0 _)
      have zf : ∀ i, w3.frozen? ⟨W0.heap.size, i, none⟩ = false := fun i => (World.frozen?_of_block (a := ⟨W0.heap.size, i, none⟩) (hg3.block _ hsw hgn)).trans (((below_new w _).frozen (p := ⟨W0.heap.size, i, none⟩) HSZ.out).trans (gf i))
      obtain ⟨hS3, hF3, hV3⟩ := HH.out.go hp (below_new w _) (by rw [HVA.out]; exact hg3) ho3 (by rw [HVA.out, World.size_alloc]; exact hl3)
      have HS3 : Hid (Sg W0 n (w3.setCell ⟨W0.heap.size, 0, none⟩ (.slice (some ⟨g, 0, none⟩) (L.length + 1) gcap)) (met1 s p) (L ++ [(p : Int)]) (.slice (some ⟨g, 0, none⟩) (L.length + 1) gcap)) := hS3
      have HF3 : Hid (FrS W0.heap.size v w (w3.setCell ⟨W0.heap.size, 0, none⟩ (.slice (some ⟨g, 0, none⟩) (L.length + 1) gcap))) := hF3
      have HV3 : Hid (FrV v w (.slice (some ⟨g, 0, none⟩) (L.length + 1) gcap)) := hV3
      clear hS3 hF3 hV3 hg3 ho3 hl3 hlt3 hgn hsw HOW G0 g0 g1 g2 gf
      go_upto_region 3 with fail
      generalize w3.setCell ⟨W0.heap.size, 0, none⟩ (.slice (some ⟨g, 0, none⟩) (L.length + 1) gcap) = W2 at *
      generalize hv2 : Value.slice (some ⟨g, 0, none⟩) (L.length + 1) gcap = v2 at HS3 HV3
      have t1 := cell_below HTB.out HS3.out.below
      have hcp := (HG.out p hp).1
      obtain ⟨hkn3, hdn4⟩ := cntB_le hcp
      rcases HA.out with h | ⟨b, off, rfl, hbl, hc⟩
      · omega
      obtain ⟨ak, ck, ad, cd, hC0, hy, hz, -⟩ := hc p hp
      have HY0 : Hid (IntsAt W0 ak (T p).kn (T p).K) := hy
      have HZ0 : Hid (IntsAt W0 ad (T p).dn (T p).D) := hz
      obtain ⟨q0, q1, q2⟩ := hC0.block (HS3.out.below.block _ hbl)
      have HCP : Hid (cntB (T p) = true) := hcp
      have HDB : Hid (∀ j, j < (T p).dn → 0 ≤ (T p).D j ∧ (T p).D j < n) := (HG.out p hp).2
      clear hc hy hz hcp hC0 z0 zf
      generalize T p = t at *
      go_upto_region 4 with fail
      obtain ⟨W3, hW3⟩ : ∃ y, y = W2.alloc (.cells #[.bool t.lf, .slice ak t.kn ck, .slice ad t.dn cd] 63) := ⟨_, rfl⟩
      have HBX : Hid (Box3 W3 W2.heap.size (.bool t.lf) (.slice ak t.kn ck) (.slice ad t.dn cd)) := by rw [hW3]; exact Box3.new _ _ _ _ _
      have HB3 : Hid (Below W2.heap.size W2 W3) := by rw [hW3]; exact below_new _ _
      have hsz3 : W3.heap.size = W2.heap.size + 1 := by rw [hW3]; exact World.size_alloc _ _
      rw [← hW3]
      clear hW3 hv2
      have HS4 : Hid (Sg W0 n W3 (met1 s p) (L ++ [(p : Int)]) v2) := HS3.out.mono HB3.out
      have HF4 : Hid (FrS W0.heap.size v w W3) := HF3.out.trans HV3.out (FrS.below HB3.out)
      have HNB : Hid (W0.heap.size < W2.heap.size ∧ v2.ownBlock ≠ some W2.heap.size ∧ W2.heap.size < W3.heap.size) := ⟨HS3.out.size, fun e => by have := (ownI_lt HS3.out.own _ e).2; omega, by omega⟩
      obtain ⟨n0, n1, n2⟩ := HBX.out
      have g1 : W3.cell? ⟨W0.heap.size, 1, none⟩ = some (.int .i64 s.ld) := HS4.out.ld
      have g2 := HS4.out.bad
      have gf := HS4.out.frz
      clear q0 q1 q2 t1 HB3 HS3
      generalize W2.heap.size = nb at *
      go_wp2_with fail
      go_loopw [13] (fun i wr => ∃ k : Nat, k ≤ t.kn ∧ i = .int .i64 k ∧ ((Hid (kyB t.K lo hi k = true) ∧ wr = W3) ∨ (Hid (kyB t.K lo hi t.kn = false) ∧ Hid (Sb W0 wr) ∧ Hid (Box3 wr nb (.bool t.lf) (.slice ak t.kn ck) (.slice ad t.dn cd)) ∧ Hid (FrS W0.heap.size v w wr)))) (fun i _ => t.kn - (intOf i).toNat)
      case atStart => exact ⟨0, Nat.zero_le _, rfl, .inl ⟨rfl, rfl⟩⟩
      case round =>
        obtain ⟨k, hk, rfl, hcase⟩ := hrel
        by_cases hlt : k < t.kn
        · have hlt' : (k : Int) < (t.kn : Int) := by omega
          have hk0' : (0 : Int) ≤ (k : Int) := by omega
          rcases hcase with ⟨HK, hw3⟩ | ⟨HKF, HSB, HBXr, HFr⟩
          · subst hw3
            rcases HY0.out.below HS4.out.below with h | ⟨b1, o1, rfl, hl1, hc1⟩
            · omega
            have hx := hc1 k hlt
            clear hc1
            by_cases h1 : lo ≤ t.K k
            · by_cases h2 : t.K k < hi
              · have d1 : ¬ (t.K k < lo) := by omega
                have d2 : ¬ (hi ≤ t.K k) := by omega
                have HK2 : Hid (kyB t.K lo hi (k + 1) = true) := kyB_step HK.out h1 h2
                generalize t.K k = tk at *
                go_wp2_with fail
                go_roundw
                case rel => exact ⟨k + 1, hlt, by go_num, .inl ⟨HK2, by first | rfl | trivial⟩⟩
                case measure => simp [intOf]; omega
              · have hkf : ¬ (lo ≤ t.K k ∧ t.K k < hi) := fun x => h2 x.2
                have d1 : ¬ (t.K k < lo) := by omega
                have d2 : hi ≤ t.K k := by omega
                have HKF : Hid (kyB t.K lo hi t.kn = false) := kyB_false hlt hkf
                clear hkf
                generalize t.K k = tk at *
                go_wp2_with fail
                go_roundw
                case rel => exact ⟨k + 1, hlt, by go_num, .inr ⟨HKF, HS4.out.fall, HBX.out.writes (lo := W0.heap.size) (hi := W0.heap.size + 1) ((Writes.refl _ _ _).setCell (p := ⟨W0.heap.size, 2, none⟩) (Nat.le_refl _) (Nat.lt_succ_self _) _) (by have := HNB.out.1; omega), HF4.out.set _ _⟩⟩
                case measure => simp [intOf]; omega
            · have hkf : ¬ (lo ≤ t.K k ∧ t.K k < hi) := fun x => h1 x.1
              have d1 : t.K k < lo := by omega
              have HKF : Hid (kyB t.K lo hi t.kn = false) := kyB_false hlt hkf
              clear hkf
              generalize t.K k = tk at *
              go_wp2_with fail
              go_roundw
              case rel => exact ⟨k + 1, hlt, by go_num, .inr ⟨HKF, HS4.out.fall, HBX.out.writes (lo := W0.heap.size) (hi := W0.heap.size + 1) ((Writes.refl _ _ _).setCell (p := ⟨W0.heap.size, 2, none⟩) (Nat.le_refl _) (Nat.lt_succ_self _) _) (by have := HNB.out.1; omega), HF4.out.set _ _⟩⟩
              case measure => simp [intOf]; omega
          · obtain ⟨m0, m1, m2⟩ := HBXr.out
            have b2 := HSB.out.bad
            have bf := HSB.out.frz
            clear n0 n1 n2 g1 g2 gf
            rcases HY0.out.below HSB.out.below with h | ⟨b1, o1, rfl, hl1, hc1⟩
            · omega
            have hx := hc1 k hlt
            clear hc1
            by_cases h1 : lo ≤ t.K k
            · by_cases h2 : t.K k < hi
              · have d1 : ¬ (t.K k < lo) := by omega
                have d2 : ¬ (hi ≤ t.K k) := by omega
                clear h1 h2
                generalize t.K k = tk at *
                go_wp2_with fail
                go_roundw
                case rel => exact ⟨k + 1, hlt, by go_num, .inr ⟨HKF, HSB, HBXr, HFr⟩⟩
                case measure => simp [intOf]; omega
              · have hkf : ¬ (lo ≤ t.K k ∧ t.K k < hi) := fun x => h2 x.2
                have d1 : ¬ (t.K k < lo) := by omega
                have d2 : hi ≤ t.K k := by omega
                clear hkf
                generalize t.K k = tk at *
                go_wp2_with fail
                go_roundw
                case rel => exact ⟨k + 1, hlt, by go_num, .inr ⟨HKF, HSB.out.again, HBXr.out.writes (lo := W0.heap.size) (hi := W0.heap.size + 1) ((Writes.refl _ _ _).setCell (p := ⟨W0.heap.size, 2, none⟩) (Nat.le_refl _) (Nat.lt_succ_self _) _) (by have := HNB.out.1; omega), HFr.out.set _ _⟩⟩
                case measure => simp [intOf]; omega
            · have hkf : ¬ (lo ≤ t.K k ∧ t.K k < hi) := fun x => h1 x.1
              have d1 : t.K k < lo := by omega
              clear hkf
              generalize t.K k = tk at *
              go_wp2_with fail
              go_roundw
              case rel => exact ⟨k + 1, hlt, by go_num, .inr ⟨HKF, HSB.out.again, HBXr.out.writes (lo := W0.heap.size) (hi := W0.heap.size + 1) ((Writes.refl _ _ _).setCell (p := ⟨W0.heap.size, 2, none⟩) (Nat.le_refl _) (Nat.lt_succ_self _) _) (by have := HNB.out.1; omega), HFr.out.set _ _⟩⟩
              case measure => simp [intOf]; omega
        · have hnl : ¬ ((k : Int) < (t.kn : Int)) := by omega
          have hkn : k = t.kn := by omega
          subst hkn
          rcases hcase with ⟨HK, hw3⟩ | ⟨HKF, HSB, HBXr, HFr⟩
          case inr =>
            obtain ⟨m0, m1, m2⟩ := HBXr.out
            have b2 := HSB.out.bad
            have bf := HSB.out.frz
            obtain ⟨d0, b1⟩ := HSB.out.ld
            have HV : Hid (vis T (f + 1) s p lo hi d = none) := HV0.out.trans (if_pos HKF.out)
            clear n0 n1 n2 g1 g2 gf HV0
            cases hlf : t.lf
            case true =>
              rw [hlf] at m0
              by_cases e0 : d0 = 0
              · subst e0
                go_wp2_with fail
                (try simp only [Exit.inBlock, Exit.then])
                refine bodyPost_ret (results_none rfl _ _ _) rfl ?_
                exact WkS.no HV.out (HFr.out.set _ _) (HSB.out.leaf d)
              · have ne0 : (d0 != 0) = true := by simp [e0]
                by_cases e1 : d0 = d
                · subst e1
                  have ne1 : (d0 != d0) = false := by simp
                  go_wp2_with fail
                  (try simp only [Exit.inBlock, Exit.then])
                  refine bodyPost_ret (results_none rfl _ _ _) rfl ?_
                  exact WkS.no HV.out (HFr.out.set _ _) (HSB.out.leaf d0)
                · have ne1 : (d0 != d) = true := by simp [e1]
                  go_wp2_with fail
                  (try simp only [Exit.inBlock, Exit.then])
                  refine bodyPost_ret (results_none rfl _ _ _) rfl ?_
                  exact WkS.no HV.out ((HFr.out.set _ _).set _ _) (HSB.out.again.leaf d)
            case false =>
              rw [hlf] at m0
              have hdk : t.dn = t.kn + 1 := by
                have h := HCP.out
                unfold cntB at h
                rw [if_neg (by rw [hlf]; simp)] at h
                simp at h
                omega
              have hd0 : (0 : Int) < (t.dn : Int) := by omega
              go_wp2_with fail
              go_loop [14] (fun i => i = .int .i64 0) (fun _ => 0)
              case atStart => exact rfl
              case round =>
                obtain rfl := hrel
                go_wp2_with fail
                go_end0
                exact WkS.no HV.out HFr.out HSB.out
          case inl =>
            subst hw3
            have HV1 : Hid (vis T (f + 1) s p lo hi d = if t.lf = true then (if s.ld = 0 ∨ s.ld = d then some ⟨upf s.met p true, s.cnt + 1, d⟩ else none) else kdl (fun s' q l h => vis T f s' q l h (d + 1)) t lo hi t.dn (met1 s p)) := HV0.out.trans (if_neg (by rw [HK.out]; simp))
            clear HV0 HK
            cases hlf : t.lf
            case true =>
              rw [hlf] at n0
              by_cases e0 : s.ld = 0
              · have HV : Hid (vis T (f + 1) s p lo hi d = some ⟨upf s.met p true, s.cnt + 1, d⟩) := by
                  show vis T (f + 1) s p lo hi d = _
                  rw [HV1.out, if_pos hlf, if_pos (.inl e0)]
                rw [e0] at g1
                clear HV1 e0
                go_wp2_with fail
                (try simp only [Exit.inBlock, Exit.then])
                refine bodyPost_ret (results_none rfl _ _ _) rfl ?_
                exact WkS.yes HV.out (HF4.out.set _ _) (HS4.out.leaf d) HV3.out
              · have ne0 : (s.ld != 0) = true := by simp [e0]
                by_cases e1 : s.ld = d
                · have HV : Hid (vis T (f + 1) s p lo hi d = some ⟨upf s.met p true, s.cnt + 1, d⟩) := by
                    show vis T (f + 1) s p lo hi d = _
                    rw [HV1.out, if_pos hlf, if_pos (.inr e1)]
                  rw [e1] at g1 ne0
                  have ne1 : (d != d) = false := by simp
                  clear HV1 e0 e1
                  go_wp2_with fail
                  (try simp only [Exit.inBlock, Exit.then])
                  refine bodyPost_ret (results_none rfl _ _ _) rfl ?_
                  exact WkS.yes HV.out (HF4.out.set _ _) (HS4.out.leaf d) HV3.out
                · have HV : Hid (vis T (f + 1) s p lo hi d = none) := by
                    show vis T (f + 1) s p lo hi d = _
                    rw [HV1.out, if_pos hlf, if_neg (fun x => x.elim e0 e1)]
                  have ne1 : (s.ld != d) = true := by simp [e1]
                  clear HV1 e0 e1
                  generalize s.ld = sl at *
                  go_wp2_with fail
                  (try simp only [Exit.inBlock, Exit.then])
                  refine bodyPost_ret (results_none rfl _ _ _) rfl ?_
                  exact WkS.no HV.out ((HF4.out.set _ _).set _ _) (HS4.out.fall.leaf d)
            case false =>
              rw [hlf] at n0
              have HV : Hid (vis T (f + 1) s p lo hi d = kdl (fun s' q l h => vis T f s' q l h (d + 1)) t lo hi t.dn (met1 s p)) := HV1.out.trans (if_neg (by rw [hlf]; simp))
              have hdk : t.dn = t.kn + 1 := by
                have h := HCP.out
                unfold cntB at h
                rw [if_neg (by rw [hlf]; simp)] at h
                simp at h
                omega
              have HIV : Hid (Inv n (unm (met1 s p).met n) (met1 s p)) := ⟨by show s.cnt + 1 + unm (upf s.met p true) n = n; omega, Nat.le_refl _⟩
              have HUM : Hid (unm (met1 s p).met n < f) := by show unm (upf s.met p true) n < f; omega
              have hwd : IntKind.i64.wrap (d + 1) = d + 1 := by rw [IntKind.wrap_i64]; omega
              have HBX2 : Hid (Box3 wr nb (.bool false) (.slice ak t.kn ck) (.slice ad t.dn cd)) := ⟨n0, n1, n2⟩
              have hk1 : 1 ≤ t.kn := by
                have h := HCP.out
                unfold cntB at h
                rw [if_neg (by rw [hlf]; simp)] at h
                simp at h
                omega
              have hwpos : t.dn ≤ 4 := hdn4
              clear HV1 g1 g2 gf hlf
              go_wp2_with fail
              obtain ⟨Wk, hWk⟩ : ∃ x, x = wr := ⟨wr, rfl⟩
              rw [← hWk] at HS4 HF4 HBX2 HNB
              rw [← hWk]
              clear n0 n1 n2 HBX hWk
              go_loopw [14] (fun i wr => ∃ k : Nat, k ≤ t.dn ∧ i = .int .i64 k ∧ ((∃ (s' : St) (L' : List Int) (v' : Value), Hid (kdl (fun s' q l h => vis T f s' q l h (d + 1)) t lo hi k (met1 s p) = some s') ∧ Hid (Inv n (unm (met1 s p).met n) s') ∧ Hid (Sg W0 n wr s' L' v') ∧ Hid (FrS W0.heap.size v w wr) ∧ Hid (FrV v w v') ∧ Hid (v'.ownBlock ≠ some nb ∧ nb < wr.heap.size) ∧ Hid (Box3 wr nb (.bool false) (.slice ak t.kn ck) (.slice ad t.dn cd))) ∨ (Hid (vis T (f + 1) s p lo hi d = none) ∧ Hid (Sb W0 wr) ∧ Hid (FrS W0.heap.size v w wr) ∧ Hid (Box3 wr nb (.bool false) (.slice ak t.kn ck) (.slice ad t.dn cd))))) (fun i _ => t.dn - (intOf i).toNat)
              case atStart => exact ⟨0, Nat.zero_le _, rfl, .inl ⟨met1 s p, _, _, rfl, HIV, HS4, HF4, HV3, ⟨HNB.out.2.1, HNB.out.2.2⟩, HBX2⟩⟩
              case round =>
                clear HIV HS4 HF4 HBX2
                obtain ⟨k, hk, rfl, hcase⟩ := hrel
                rcases hcase with ⟨s', L', v', HKD, HIV, HSr, HFr, HVr, HOr, HBr⟩ | ⟨HVn, HSB, HFr, HBr⟩
                case inr =>
                  obtain ⟨m0, m1, m2⟩ := HBr.out
                  have b2 := HSB.out.bad
                  by_cases hlt : k < t.dn
                  · have hlt' : (k : Int) < (t.dn : Int) := by omega
                    go_wp2_with fail
                    go_end0
                    exact WkS.no HVn.out HFr.out HSB.out
                  · have hnl2 : ¬ ((k : Int) < (t.dn : Int)) := by omega
                    go_wp2_with fail
                    go_end0
                    exact WkS.no HVn.out HFr.out HSB.out
                case inl =>
                  obtain ⟨m0, m1, m2⟩ := HBr.out
                  have b2 := HSr.out.bad
                  by_cases hlt : k < t.dn
                  case neg =>
                    have hnl2 : ¬ ((k : Int) < (t.dn : Int)) := by omega
                    have hkd : k = t.dn := by omega
                    subst hkd
                    go_wp2_with fail
                    go_end0
                    exact WkS.yes (HV.out.trans HKD.out) HFr.out HSr.out HVr.out
                  case pos =>
                    have hlt' : (k : Int) < (t.dn : Int) := by omega
                    have hk0' : (0 : Int) ≤ (k : Int) := by omega
                    rcases HZ0.out.below HSr.out.below with h | ⟨b1, o1, rfl, hl1, hc1⟩
                    · omega
                    have hx := hc1 k hlt
                    have hDk := HDB.out k hlt
                    obtain ⟨q, hq⟩ : ∃ q : Nat, t.D k = q := ⟨(t.D k).toNat, by omega⟩
                    have HST : Hid (kdl (fun s' q l h => vis T f s' q l h (d + 1)) t lo hi (k + 1) (met1 s p) = vis T f s' q (klo t lo k) (khi t hi k) (d + 1)) := by
                      show kdl _ t lo hi (k + 1) (met1 s p) = _
                      conv => lhs; unfold kdl
                      rw [HKD.out, hq]
                      rfl
                    have hqn : q < n := by omega
                    rw [hq] at hx
                    clear hc1 hDk hq
                    have HC : Hid (Calls Try.prog 44 #[.pointer (some ⟨tb, 0, none⟩), .pointer (some ⟨W0.heap.size, 0, none⟩), .int .i64 q, .int .i64 (klo t lo k), .int .i64 (khi t hi k), .int .i64 (d + 1)] wr (WkS W0 n wr v' (vis T f s' q (klo t lo k) (khi t hi k) (d + 1)))) := IH.out s' L' v' q (klo t lo k) (khi t hi k) (d + 1) wr HSr.out hqn HIV.out.1 (by have h1 := HIV.out.2; have h2 := HUM.out; omega) (by omega) (by omega)
                    have HN : Hid (∀ e w2, WkS W0 n wr v' (vis T f s' q (klo t lo k) (khi t hi k) (d + 1)) e w2 → e = .returned (.tuple #[]) ∧ ((∃ (s2 : St) (L2 : List Int) (v2 : Value), Hid (kdl (fun s' q l h => vis T f s' q l h (d + 1)) t lo hi (k + 1) (met1 s p) = some s2) ∧ Hid (Inv n (unm (met1 s p).met n) s2) ∧ Hid (Sg W0 n w2 s2 L2 v2) ∧ Hid (FrS W0.heap.size v w w2) ∧ Hid (FrV v w v2) ∧ Hid (v2.ownBlock ≠ some nb ∧ nb < w2.heap.size) ∧ Hid (Box3 w2 nb (.bool false) (.slice ak t.kn ck) (.slice (some ⟨b1, o1, none⟩) t.dn cd))) ∨ (Hid (vis T (f + 1) s p lo hi d = none) ∧ Hid (Sb W0 w2) ∧ Hid (FrS W0.heap.size v w w2) ∧ Hid (Box3 w2 nb (.bool false) (.slice ak t.kn ck) (.slice (some ⟨b1, o1, none⟩) t.dn cd))))) := by
                      intro e w2 hpost
                      obtain ⟨rfl, hf2, hrest⟩ := hpost
                      have hG9 : nb ≠ W0.heap.size := by have := HNB.out.1; omega
                      have hblk := hf2.2 nb HOr.out.2 hG9 HOr.out.1
                      have hbx : Box3 w2 nb (.bool false) (.slice ak t.kn ck) (.slice (some ⟨b1, o1, none⟩) t.dn cd) := by
                        have e9 : ∀ i, w2.cell? ⟨nb, i, none⟩ = wr.cell? ⟨nb, i, none⟩ := fun i => World.cell?_of_block (a := ⟨nb, i, none⟩) hblk
                        exact ⟨(e9 _).trans HBr.out.1, (e9 _).trans HBr.out.2.1, (e9 _).trans HBr.out.2.2⟩
                      have hF := HFr.out.trans HVr.out hf2
                      refine ⟨rfl, ?_⟩
                      cases hvis : vis T f s' q (klo t lo k) (khi t hi k) (d + 1)
                      case none =>
                        rw [hvis] at hrest
                        exact .inr ⟨HV.out.trans (kdl_none (k := k + 1) (by omega) (HST.out.trans hvis)), hrest, hF, hbx⟩
                      case some s2 =>
                        rw [hvis] at hrest
                        obtain ⟨L2, v2', hS2, hV2⟩ := hrest
                        refine .inl ⟨s2, L2, v2', HST.out.trans hvis, vis_inv HG.out f s' q _ _ _ s2 _ hqn HIV.out hvis, hS2, hF, HVr.out.trans HFr.out.1 hV2, ⟨fun e => ?_, Nat.lt_of_lt_of_le HOr.out.2 hf2.1⟩, hbx⟩
                        rcases hV2 nb e with e1 | e1
                        · exact HOr.out.1 e1
                        · have := HOr.out.2; omega
                    rcases Nat.eq_zero_or_pos k with hk9 | hpos
                    · subst hk9
                      have e1 : klo t lo 0 = lo := rfl
                      by_cases hk0 : 0 < t.kn
                      · have e2 : khi t hi 0 = t.K 0 := if_pos hk0
                        rw [e1, e2] at HC HN
                        rcases HY0.out.below HSr.out.below with h | ⟨b5, o5, rfl, hl5, hc5⟩
                        · omega
                        have hx5 := hc5 0 hk0
                        have hk0' : (0 : Int) < (t.kn : Int) := by omega
                        rw [Nat.add_zero] at hx5 hx
                        clear hc5 e1 e2 HST
                        generalize t.K 0 = tk at *
                        go_wp2_with fail
                        refine HC.out.mono ?_
                        intro e w2 hpost
                        obtain ⟨rfl, hnext⟩ := HN.out e w2 hpost
                        clear HC HN hpost
                        go_wp2_with fail
                        go_roundw
                        case rel => exact ⟨0 + 1, hlt, by go_num, hnext⟩
                        case measure => simp [intOf]; omega
                      · omega
                    · obtain ⟨j, rfl⟩ : ∃ j, k = j + 1 := ⟨k - 1, by omega⟩
                      have e1 : klo t lo (j + 1) = t.K j := by simp [klo]
                      rcases HY0.out.below HSr.out.below with h | ⟨b5, o5, rfl, hl5, hc5⟩
                      · omega
                      have hx5 := hc5 j (by omega)
                      have hj1 : (j : Int) < (t.kn : Int) := by omega
                      have hj2 : (0 : Int) ≤ (j : Int) := by omega
                      have hj3 : (0 : Int) < (j : Int) + 1 := by omega
                      have hj6 : (j : Int) + 1 < (t.dn : Int) := by omega
                      have hj5 : (0 : Int) ≤ (j : Int) + 1 := by omega
                      have hwj : IntKind.i64.wrap (j : Int) = (j : Int) := by rw [IntKind.wrap_i64]; omega
                      by_cases hk0 : j + 1 < t.kn
                      · have e2 : khi t hi (j + 1) = t.K (j + 1) := if_pos hk0
                        have hx6 := hc5 (j + 1) hk0
                        have hj4 : (j : Int) + 1 < (t.kn : Int) := by omega
                        rw [e1, e2] at HC HN
                        clear hc5 e1 e2 HST
                        generalize t.K (j + 1) = tk at *
                        generalize t.K j = tp at *
                        go_wp2_with fail
                        refine HC.out.mono ?_
                        intro e w2 hpost
                        obtain ⟨rfl, hnext⟩ := HN.out e w2 hpost
                        clear HC HN hpost
                        go_wp2_with fail
                        go_roundw
                        case rel => exact ⟨j + 1 + 1, hlt, by go_num, hnext⟩
                        case measure => simp [intOf]; omega
                      · have e2 : khi t hi (j + 1) = hi := if_neg hk0
                        have hj4 : ¬ ((j : Int) + 1 < (t.kn : Int)) := by omega
                        rw [e1, e2] at HC HN
                        clear hc5 e1 e2 HST
                        generalize t.K j = tp at *
                        go_wp2_with fail
                        refine HC.out.mono ?_
                        intro e w2 hpost
                        obtain ⟨rfl, hnext⟩ := HN.out e w2 hpost
                        clear HC HN hpost
                        go_wp2_with fail
                        go_roundw
                        case rel => exact ⟨j + 1 + 1, hlt, by go_num, hnext⟩
                        case measure => simp [intOf]; omega
end Go.Proofs.Ytbnehgpefjbheaa
