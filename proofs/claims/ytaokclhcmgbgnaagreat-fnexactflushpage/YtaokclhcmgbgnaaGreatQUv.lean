/- spec.l3Recs. -/
import Derived.Test.YtaokclhcmgbgnaaGreatQSq
import Derived.Test.YtaokclhcmgbgnaaGreatQSrf
import Derived.Deep.RegionLaw
namespace Go.Proofs.YtaokclhcmgbgnaaGreat
open Go.RowKit Go.Deep
set_option linter.unusedVariables false
set_option maxRecDepth 20000

theorem drewB3 {w1 w2 : World} (hb : Below w1.drew.heap.size w1.drew w2) : Below w1.heap.size w1 w2 := ((Below.refl _ _).drew).trans hb
theorem convZ {b off n cap : Nat} {z : Nat → Int} {w : World} {s : ByteArray} (hs : s = strOfNums (zL z n)) (h : BA w b off n z) : (convert 27 9 (.slice (some ⟨b, off, none⟩) n cap)).run Tryz.prog w = .ok (.string s) w := by
  rw [hs]; exact convBA w h
theorem convR {z : Nat → Int} {B : Nat} {w : World} {v : Value} {s : ByteArray} (hs : s = strOfNums (rzB z)) (h : w.ownsRow B 5 1 v (rzB z).length (bl (rzB z))) :
    ∃ G C, v = .slice (some ⟨G, 0, none⟩) 13 C ∧ (convert 27 9 (.slice (some ⟨G, 0, none⟩) 13 C)).run Tryz.prog w = .ok (.string s) w := by
  rw [rzB_len] at h
  obtain ⟨G, C, rfl, -, -⟩ := h.form (by decide)
  refine ⟨G, C, rfl, ?_⟩
  rw [hs]
  exact convRow w (rzB_len z) h
theorem okR_of {z : Nat → Int} (h : rzF z = 0) : okR z = decide (rzB z = zL z 13) := by simp [okR, h]
theorem okR_no {z : Nat → Int} (h : ¬ rzF z = 0) : okR z = false := by simp [okR, h]
theorem Box8.belowD {w w' : World} {B : Nat} {z : Nat → Int} (h : BX w B z) (hb : Below w.heap.size w w') : BX w' B z := Box8.below h hb
set_option maxHeartbeats 4000000 in
theorem l3Recs_any (n : Nat) (z : Nat → Int) (a : Option Addr) (b off cap : Nat) (w : World) (hcap : n ≤ cap) (hn : n ≤ 8000) (hz : Byt n z) (ha : n = 0 ∨ a = some ⟨b, off, none⟩ ∧ b < w.heap.size ∧ BA w b off n z) :
    Calls Tryz.prog 53 #[.slice a n cap] w fun e w' => ∃ ra rcp, e = .returned (.tuple #[.slice ra (cnt z n) rcp, .int .i64 (13 * (cnt z n : Int))]) ∧ Below w.heap.size w w' ∧ w'.ownsRow w.heap.size 105 8 (.slice ra (cnt z n) rcp) (cnt z n) (rvs z (cnt z n)) := by
  obtain ⟨i0, hi, hz0, hz1, hz2⟩ := info_parts info45
  have HI : Hid (Tryz.prog.info? 105 = some i0 ∧ i0.zero = some (.agg #[.int .i64 0, .int .i64 0, .int .i64 0, .bool false, .int .i64 0, .bool false, .int .i64 0, .int .i64 0]) ∧ i0.size = 8 ∧ i0.bytes = 64) := ⟨hi, hz0, hz1, hz2⟩
  have HZ : Hid (Byt n z) := hz
  have HA : Hid (n = 0 ∨ a = some ⟨b, off, none⟩ ∧ b < w.heap.size ∧ BA w b off n z) := ha
  clear hi hz0 hz1 hz2 hz ha
  go_enter Tryz.func53, Tryz.ntmps53
  go_wp2_with fail
  go_loopw [4, 5, 6, 7] (fun r i _ _ wr => ∃ k : Nat, ∃ ra : Option Addr, ∃ rcp : Nat, i = .int .i64 (13 * (k : Int)) ∧ r = .slice ra k rcp ∧ 13 * k ≤ n ∧ Hid (cnt z n = rcn z n (n - k) k) ∧ Hid (Rx z w wr (.slice ra k rcp) k)) (fun _ i _ _ _ => n - (intOf i).toNat)
  case atStart => exact ⟨0, _, _, rfl, rfl, by omega, rfl, ⟨below_new _ _, World.ownsRow_lit w #[] 0 (Nat.le_refl _) (Nat.zero_le _) rfl⟩⟩
  case round =>
    obtain ⟨k, ra, rcp, rfl, rfl, hk, HC, HR⟩ := hrel
    have hw13 : IntKind.i64.wrap (13 * (k : Int) + 13) = 13 * (k : Int) + 13 := by rw [IntKind.wrap_i64]; omega
    by_cases h13 : 13 * (k + 1) ≤ n
    · rcases HA.out with h | ⟨rfl, hbl, hba⟩
      · omega
      have hle : 13 * (k : Int) + 13 ≤ (n : Int) := by omega
      have hle2 : 13 * (k : Int) + 13 ≤ (cap : Int) := by omega
      have hle0 : (0 : Int) ≤ 13 * (k : Int) := by omega
      have ht1 : (13 * (k : Int)).toNat = 13 * k := by omega
      have ht2 : (13 * (k : Int) + 13).toNat = 13 * k + 13 := by omega
      have hcc : ¬ cap = 13 * k := by omega
      have HRV : Hid (rvs z (k + 1) = rvs z k ++ rvl (sh z (13 * k))) := rfl
      have HC1 : Hid (okR (sh z (13 * k)) = true → cnt z n = rcn z n (n - (k + 1)) (k + 1)) := fun hok => HC.out.trans (rcn_at h13 hok)
      have HC0 : Hid (okR (sh z (13 * k)) = false → cnt z n = k) := fun hok => HC.out.trans (rcn_end (by intro h; rw [hok] at h; exact absurd h.2 (by decide)))
      have hZk : Byt 13 (sh z (13 * k)) := fun i hi => HZ.out _ (by omega)
      have hBr : BA wr b (off + 13 * k) 13 (sh z (13 * k)) := fun i hi => by
        have := hba.below HR.out.below (13 * k + i) (by omega)
        rwa [← Nat.add_assoc] at this
      have hblr : b < wr.heap.size := by have := HR.out.below.size; omega
      have HZK : Hid (Byt 13 (sh z (13 * k))) := hZk
      have hy0 := hZk 0 (by decide)
      have hy3 := hZk 3 (by decide)
      have hy4 := hZk 4 (by decide)
      generalize sh z (13 * k) = zk at *
      have g0 : IntKind.i64.wrap (zk 0) = zk 0 := by rw [IntKind.wrap_i64]; omega
      have g3 : IntKind.i64.wrap (zk 3) = zk 3 := by rw [IntKind.wrap_i64]; omega
      have n0 : num zk 0 1 = zk 0 := by simp [num]
      have n3 : num zk 3 1 = zk 3 := by simp [num]
      have e4 : ((zk 4).tmod 2 == 1) = hdB zk := by rw [Int.tmod_eq_emod_of_nonneg hy4.1]; rfl
      have e5 : ((IntKind.u8.wrap ((zk 4).tdiv 2)).tmod 2 == 1) = hsB zk := by
        rw [Int.tdiv_eq_ediv_of_nonneg hy4.1, IntKind.wrap_u8, Int.tmod_eq_emod_of_nonneg (by omega), hsB]
        congr 1
        omega
      clear hba
      go_upto_region 5 with fail
      go_cut [7] (fun s0 wx => ∃ B : Nat, s0 = .pointer (some ⟨B, 0, none⟩) ∧ Hid (wr.heap.size ≤ B) ∧ Hid (Rx z w wx (.slice ra k rcp) k) ∧ Hid (BX wx B zk) ∧ Hid (Below wr.heap.size wr wx))
      case first =>
        go_region_held3 (fun w' => BA w' b (off + 13 * k) 13 zk ∧ w'.cell? ⟨b, off + 13 * k, none⟩ = some (.int .u8 (zk 0)) ∧ w'.cell? ⟨b, off + 13 * k + 3, none⟩ = some (.int .u8 (zk 3)) ∧ w'.cell? ⟨b, off + 13 * k + 4, none⟩ = some (.int .u8 (zk 4))) (first | with_reducible assumption | with_reducible exact bxk (ba_d hBr) (by decide) | with_reducible exact bxk (ba_ad hBr _) (by decide) | go_keep)
          (first | (go_at_call 117; refine (takeH zk _ (bx1 (by with_reducible assumption)) HZK.out (by decide) (by decide) (by decide) (by decide) (by decide)).mono ?_; rintro e w' ⟨rfl, rfl⟩; simp only [Int.reduceToNat]))
        all_goals
          go_wp2_with fail
          go_meet
          exact ⟨wr.heap.size, rfl, Nat.le_refl _, HR.out.mono ((below_new _ _).drew), by simp [Hid, BX, Box8, n0, n3], (below_new _ _).drew⟩
      case rest =>
        obtain ⟨B, rfl, HB, HRx, HBX, HWX⟩ := hcut
        have hBc : BA wc b (off + 13 * k) 13 zk := hBr.below HWX.out
        have hBcd : BA wc.drew b (off + 13 * k) 13 zk := hBc
        clear e4 e5 g0 g3 hy0 hy3 hy4 n0 n3 hBr
        obtain ⟨q0, q1, q2, q3, q4, q5, q6, q7⟩ := HBX.out
        go_upto_region 6 with fail
        go_cut [57] (fun s57 wx => s57 = .bool (!okR zk) ∧ Hid (Below wc.heap.size wc wx))
        case first =>
          by_cases hp : rzF zk = 0
          · have HP : Hid (rf (num zk 0 1) (num zk 1 2) (num zk 3 1) (hdB zk) (num zk 5 2) (hsB zk) (num zk 7 2) (num zk 9 2) = 0) := hp
            obtain ⟨sA, hsA⟩ : ∃ s, s = strOfNums (rzB zk) := ⟨_, rfl⟩
            obtain ⟨sB, hsB'⟩ : ∃ s, s = strOfNums (zL zk 13) := ⟨_, rfl⟩
            have hse : (sA.toList == sB.toList) = okR zk := by rw [hsA, hsB', okR_of hp]; exact strEq (fun x hx => rb_byt _ _ _ _ _ _ _ _ x hx) (zL_byt HZK.out)
            have HSA : Hid (sA = strOfNums (rzB zk)) := hsA
            have HSB : Hid (sB = strOfNums (zL zk 13)) := hsB'
            generalize okR zk = bb at *
            clear hp hsA hsB'
            first | go_region_law (first | (go_simp; go_at_call 118; refine (specRf_any (num zk 0 1) (num zk 1 2) (num zk 3 1) (hdB zk) (num zk 5 2) (hsB zk) (num zk 7 2) (num zk 9 2) _).mono ?_; rintro e w1 ⟨rfl, hb1⟩; rw [HP.out]; obtain ⟨p0, p1, p2, p3, p4, p5, p6, p7⟩ := Box8.belowD (w := wc.drew) HBX.out hb1; have hcv1 := convZ (cap := cap - 13 * k) HSB.out (BA.below (w := wc.drew) hBcd hb1)) | (go_simp; go_at_call 119; refine (specL3_any (num zk 0 1) (num zk 1 2) (num zk 3 1) (hdB zk) (num zk 5 2) (hsB zk) (num zk 7 2) (num zk 9 2) w1 (goodR_of _ _ _ _ _ _ _ _ HP.out)).mono ?_; rintro e w2 ⟨vq, rfl, hb2, ho2, -⟩; obtain ⟨G, C, rfl, hcv2⟩ := convR HSA.out ho2; have hcv3 := convZ (cap := cap - 13 * k) HSB.out ((BA.below (w := wc.drew) hBcd hb1).below hb2); have HB2 : Hid (Below wc.heap.size wc w2) := below_then (drewB3 hb1) hb2)) | fail
            all_goals
              go_wp2_with fail
              go_meet
              exact ⟨rfl, HB2⟩
          · have HU : Hid (okR zk = false) := okR_no hp
            have hp2 : (rf (num zk 0 1) (num zk 1 2) (num zk 3 1) (hdB zk) (num zk 5 2) (hsB zk) (num zk 7 2) (num zk 9 2) != 0) = true := by simpa [rzF] using hp
            clear hp
            first | go_region_law (first | (go_simp; go_at_call 118; refine (specRf_any (num zk 0 1) (num zk 1 2) (num zk 3 1) (hdB zk) (num zk 5 2) (hsB zk) (num zk 7 2) (num zk 9 2) _).mono ?_; rintro e w1 ⟨rfl, hb1⟩; have HB1 : Hid (Below wc.heap.size wc w1) := drewB3 hb1)) | fail
            all_goals
              go_wp2_with fail
              go_meet
              exact ⟨by rw [HU.out]; rfl, HB1⟩
        case rest =>
          obtain ⟨rfl, HB6⟩ := hcut
          have HRy := HRx.out.mono HB6.out
          have HBy := Box8.belowD HBX.out HB6.out
          clear q0 q1 q2 q3 q4 q5 q6 q7 hBc hBcd
          by_cases hok : okR zk = true
          · have HC2 : Hid (cnt z n = rcn z n (n - (k + 1)) (k + 1)) := HC1.out hok
            rw [hok]
            obtain ⟨p0, p1, p2, p3, p4, p5, p6, p7⟩ := HBy
            have HRz : Hid (Rx z w wc (.slice ra k rcp) k) := HRy
            clear HRy
            go_wp2_with (at_builtin; refine wpList_append_own _ rfl (.tmp 58) (.tmp 60) 83 rfl w.heap.size 105 i0 (.agg #[.int .i64 0, .int .i64 0, .int .i64 0, .bool false, .int .i64 0, .bool false, .int .i64 0, .int .i64 0]) 8 64 Tryz.underlying83 HI.out.1 HI.out.2.1 HI.out.2.2.1 HI.out.2.2.2 rfl (by decide) (.slice ra k rcp) k (rvs z k) rfl (HRz.out.own.alloc _) ⟨wc.heap.size, 0, none⟩ 1 1 (rvl zk) rfl rfl (cell_eight_new _ _ _) (rvl_one _) ?c3 ?c4 ?c5 ?_)
            case c3 => unfold maxLen; omega
            case c4 => omega
            case c5 => have := HRz.out.below.size; first | omega | (rw [World.size_alloc]; omega)
            intro v1 w3 ho1 hg1 _
            obtain ⟨ra1, rp1, rfl⟩ := slice_of_recs ho1
            have HR3 : Hid (Rx z w w3 (.slice ra1 (k + 1) rp1) (k + 1)) := ⟨(HRz.out.below.alloc HRz.out.below.size _).grown hg1 (by have := HRz.out.below.size; rw [World.size_alloc]; omega) (fun q hq => (HRz.out.own.lt q hq).1), by rw [HRV.out]; exact ho1⟩
            clear ho1 hg1
            go_wp2_with fail
            go_roundw
            case rel => exact ⟨k + 1, ra1, rp1, by go_num, rfl, h13, HC2, HR3⟩
            case measure => simp [intOf]; omega
          · have hokf : okR zk = false := by simpa using hok
            have HC2 : Hid (cnt z n = k) := HC0.out hokf
            rw [hokf]
            go_wp2_with fail
            go_ret2
            rw [HC2.out]
            exact ⟨ra, rcp, rfl, HRy.below, HRy.own⟩
    · have hgt : ¬ (13 * (k : Int) + 13 ≤ (n : Int)) := by omega
      have HC2 : Hid (cnt z n = k) := HC.out.trans (rcn_end (by intro h; exact h13 h.1))
      go_wp2_with fail
      go_ret2
      rw [HC2.out]
      exact ⟨ra, rcp, rfl, HR.out.below, HR.out.own⟩
end Go.Proofs.YtaokclhcmgbgnaaGreat
