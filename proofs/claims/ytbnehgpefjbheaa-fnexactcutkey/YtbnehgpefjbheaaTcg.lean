/- CutKey: the model's side. -/
import Derived.Test.YtbnehgpefjbheaaTcf
namespace Go.Proofs.Ytbnehgpefjbheaa
open Go.RowKit Go.Deep
set_option linter.unusedVariables false
set_option maxRecDepth 20000

set_option maxHeartbeats 8000000 in
theorem specCk_any (t : Tr) (key : Int) (a : Option Addr) (ca : Nat) (w : World) (hs : SmallT t) (h : NdsAt w a t.n t.T) :
    Calls Try.prog 29 #[.agg #[.int .i64 t.root, .slice a t.n ca], .int .i64 key] w (TRes (ckC t key) (ckT t key) w) := by
  have HA : Hid (NdsAt w a t.n t.T) := h
  have HS : Hid (SmallT t) := hs
  clear h hs
  go_enter Try.func29, Try.ntmps29
  go_wp2_with fail
  obtain ⟨W, hW⟩ : ∃ y, y = (w.alloc (.cells #[.int .i64 t.root, .slice a t.n ca] 29)).alloc (.cells #[.int .i64 0, .int .i64 0, .slice none 0 0] 49) := ⟨_, rfl⟩
  have b0 : W.cell? ⟨w.heap.size, 0, none⟩ = some (.int .i64 t.root) := by rw [hW]; simp [go_sem]
  have b1 : W.cell? ⟨w.heap.size, 1, none⟩ = some (.slice a t.n ca) := by rw [hW]; simp [go_sem]
  have r0 : W.cell? ⟨w.heap.size + 1, 0, none⟩ = some (.int .i64 0) := by rw [hW]; simp [go_sem]
  have r1 : W.cell? ⟨w.heap.size + 1, 1, none⟩ = some (.int .i64 0) := by rw [hW]; simp [go_sem]
  have r2 : W.cell? ⟨w.heap.size + 1, 2, none⟩ = some (.slice none 0 0) := by rw [hW]; simp [go_sem]
  have rf : ∀ i, W.frozen? ⟨w.heap.size + 1, i, none⟩ = false := fun i => by rw [hW]; simp [go_sem]
  have HB : Hid (Below w.heap.size w W) := by rw [hW]; exact below_then (below_new _ _) (below_new _ _)
  have hsz : W.heap.size = w.heap.size + 2 := by rw [hW]; simp
  rw [← hW]
  clear hW
  refine (specTf_any t a ca W HS.out (HA.out.below HB.out)).mono ?_
  rintro e w1 ⟨rfl, hb1⟩
  have HB1 : Hid (Below w.heap.size w w1) := below_then HB.out hb1
  have c0 := cell_below b0 hb1
  have c1 := cell_below b1 hb1
  have s0' := cell_below r0 hb1
  have s1' := cell_below r1 hb1
  have s2' := cell_below r2 hb1
  have sf : ∀ i, w1.frozen? ⟨w.heap.size + 1, i, none⟩ = false := fun i => (hb1.frozen (p := ⟨_, i, none⟩) (by show w.heap.size + 1 < W.heap.size; omega)).trans (rf i)
  have HZ1 : Hid (w.heap.size + 2 ≤ w1.heap.size) := by have := hb1.size; show _ ≤ _; omega
  clear hb1 b0 b1 r0 r1 r2 rf HB hsz
  by_cases hg : trF t = 0
  · have HG : Hid (trF t = 0) := hg
    rw [hg]
    clear hg
    cases hk : inB key 0 10000
    · have HC : Hid (ckC t key = 3) := by show ckC t key = 3; have e1 : ptC t key = 3 := (by unfold ptC; rw [if_neg (by rw [HG.out]; simp), if_neg (by rw [hk]; simp)]); unfold ckC; rw [e1]; simp
      go_wp2_with (go_at_call 55; refine (l4Key_any _ _).mono ?_; rintro e w' ⟨rfl, hw⟩; have hw1 := hw.symm; clear hw; subst hw1; rw [hk])
      refine bodyPost_ret (v := .agg #[.int .i64 3, .int .i64 0, .slice none 0 0]) (by simp [results, Try.results29, go_sem, s0', s1', s2']) rfl ?_
      refine tres_no ⟨HC.out, by omega⟩ ?_
      repeat (first | with_reducible exact HB1.out | with_reducible refine Below.setCell ?_ (by first | omega | (simp <;> omega)) _)
    · have HC : Hid (ptC t key = 0) := by show ptC t key = 0; unfold ptC; rw [if_neg (by rw [HG.out]; simp), if_pos hk]
      have HH : Hid (Calls Try.prog 51 #[.pointer (some ⟨w.heap.size, 0, none⟩), .int .i64 key] w1 fun e w' => e = .returned (.bool (hasB t key)) ∧ Below w1.heap.size w1 w') := l4Has_any t key w.heap.size ca a w1 HG.out c0 c1 (HA.out.below HB1.out)
      go_wp2_with (go_at_call 55; refine (l4Key_any _ _).mono ?_; rintro e w' ⟨rfl, hw⟩; have hw1 := hw.symm; clear hw; subst hw1; rw [hk])
      refine HH.out.mono ?_
      rintro e w2 ⟨rfl, hb2⟩
      have HB2 : Hid (Below w.heap.size w w2) := below_then HB1.out hb2
      have d0 := cell_below c0 hb2
      have d1 := cell_below c1 hb2
      have x0 := cell_below s0' hb2
      have x1 := cell_below s1' hb2
      have x2 := cell_below s2' hb2
      have xf : ∀ i, w2.frozen? ⟨w.heap.size + 1, i, none⟩ = false := fun i => (hb2.frozen (p := ⟨_, i, none⟩) (by have := HZ1.out; show w.heap.size + 1 < w1.heap.size; omega)).trans (sf i)
      have HZ2 : Hid (w.heap.size + 2 ≤ w2.heap.size) := Nat.le_trans HZ1.out hb2.size
      clear hb2 c0 c1 s0' s1' s2' sf HZ1 HB1 HH
      cases hh : hasB t key
      · have HC4 : Hid (ckC t key = 4) := by show ckC t key = 4; unfold ckC; rw [if_neg (by rw [HC.out]; simp), if_neg (by rw [hh]; simp)]
        go_wp2_with fail
        refine bodyPost_ret (v := .agg #[.int .i64 4, .int .i64 0, .slice none 0 0]) (by simp [results, Try.results29, go_sem, x0, x1, x2]) rfl ?_
        refine tres_no ⟨HC4.out, by omega⟩ ?_
        repeat (first | with_reducible exact HB2.out | with_reducible refine Below.setCell ?_ (by first | omega | (simp <;> omega)) _)
      · have HC0 : Hid (ckC t key = 0) := by show ckC t key = 0; unfold ckC; rw [if_neg (by rw [HC.out]; simp), if_pos hh]
        obtain ⟨hn1, hn, hG, hr, hf⟩ := trF_good HG.out
        have HW : Hid (Calls Try.prog 61 #[.agg #[.int .i64 t.root, .slice a t.n ca]] w2 (CTr t w2)) := l4Copy_any t a ca w2 hn (fun i hi => by have := cntB_le (hG i hi).1; omega) (HA.out.below HB2.out)
        have HQ : Hid (lst t.T key (t.n + 1) t.root.toNat < t.n) := lst_ok hG key _ _ (by omega)
        have HD0 : Hid ((t.T (lst t.T key (t.n + 1) t.root.toNat)).dn = 0) := leaf_dn (hG _ HQ.out).1 (lst_leaf hG key _ _ (by omega) hf)
        have HK3 : Hid ((t.T (lst t.T key (t.n + 1) t.root.toNat)).kn ≤ 3) := (cntB_le (hG _ HQ.out).1).1
        have HN1 : Hid (1 ≤ t.n) := hn1
        clear hG hr hf hn1 hn hh
        go_wp2_with fail
        refine HW.out.mono ?_
        intro e w3 hpost
        unfold CTr at hpost
        obtain ⟨v, M, he, hb3, hM, hgr⟩ := hpost
        subst he
        obtain ⟨va, vc, rfl, hvc, hown⟩ := hgr.own
        obtain ⟨b, off, rfl, hM3⟩ : ∃ b off, va = some ⟨b, off, none⟩ ∧ M ≤ w3.heap.size := by
          rcases hown.2 with h | ⟨b, off, h, h1, h2, _⟩
          · have := HN1.out; omega
          · exact ⟨b, off, h, by omega⟩
        have HO3 : Hid (OwnNd w3 M w3.heap.size (some ⟨b, off, none⟩) t.n t.T) := hown
        have HB3 : Hid (Below w.heap.size w w3) := below_then HB2.out hb3
        have HMZ : Hid (w.heap.size + 2 ≤ M ∧ M ≤ w3.heap.size) := ⟨Nat.le_trans HZ2.out hM, hM3⟩
        have y0 := cell_below x0 hb3
        have y1 := cell_below x1 hb3
        have y2 := cell_below x2 hb3
        have yf : ∀ i, w3.frozen? ⟨w.heap.size + 1, i, none⟩ = false := fun i => (hb3.frozen (p := ⟨_, i, none⟩) (by have := HZ2.out; show w.heap.size + 1 < w2.heap.size; omega)).trans (xf i)
        clear hb3 hM hM3 hgr hown d0 d1 x0 x1 x2 xf HW HB2 HZ2 hvc
        go_wp2_with fail
        obtain ⟨w4, hw4⟩ : ∃ y, y = w3.alloc (.cells #[.int .i64 t.root, .slice (some ⟨b, off, none⟩) t.n vc] 29) := ⟨_, rfl⟩
        have hb4 : Below w3.heap.size w3 w4 := by rw [hw4]; exact below_new _ _
        have o0 : w4.cell? ⟨w3.heap.size, 0, none⟩ = some (.int .i64 t.root) := by rw [hw4]; simp [go_sem]
        have o1 : w4.cell? ⟨w3.heap.size, 1, none⟩ = some (.slice (some ⟨b, off, none⟩) t.n vc) := by rw [hw4]; simp [go_sem]
        rw [← hw4]
        clear hw4
        have HO4 : Hid (OwnNd w4 M w3.heap.size (some ⟨b, off, none⟩) t.n t.T) := HO3.out.below hb4
        have HB4 : Hid (Below w.heap.size w w4) := below_then HB3.out hb4
        have z0 := cell_below y0 hb4
        have z1 := cell_below y1 hb4
        have z2 := cell_below y2 hb4
        have HZ3 : Hid (w3.heap.size < w4.heap.size) := Go.block_lt_of_cell o0
        have zf : ∀ i, w4.frozen? ⟨w.heap.size + 1, i, none⟩ = false := fun i => (hb4.frozen (p := ⟨_, i, none⟩) (by have := HMZ.out; show w.heap.size + 1 < w3.heap.size; omega)).trans (yf i)
        clear y0 y1 y2 yf hb4 HO3 HB3
        obtain ⟨hn1, hn, hG, hr, hf⟩ := trF_good HG.out
        have HWP : Hid (Calls Try.prog 53 #[.pointer (some ⟨w3.heap.size, 0, none⟩), .int .i64 key] w4 (IAn (pth t.T key (t.n + 1) t.root.toNat) w4)) := l4Path_any t key w3.heap.size vc (some ⟨b, off, none⟩) w4 hn1 hn hG hr.1 hr.2 hf o0 o1 HO4.out.at
        obtain ⟨h1, h2⟩ := pth_last key hG (t.n + 1) t.root.toNat (by omega) hf
        have hpl := pth_len t.T key (t.n + 1) t.root.toNat
        obtain ⟨P, hP⟩ : ∃ x, x = pth t.T key (t.n + 1) t.root.toNat := ⟨_, rfl⟩
        rw [← hP] at HWP h1 h2 hpl
        obtain ⟨m, hm⟩ : ∃ m, P.length = m + 1 := ⟨_, (Nat.sub_add_cancel h1).symm⟩
        have HM : Hid (P.length = m + 1) := hm
        rw [hm, Nat.add_sub_cancel] at h2
        have H2 : Hid (zI P m = (lst t.T key (t.n + 1) t.root.toNat : Int)) := h2
        have hm60 : m ≤ 60 := by omega
        clear hG hr hf hn1 hn hP h1 h2 hpl hm
        refine HWP.out.mono ?_
        intro e w5 hpost
        unfold IAn at hpost
        obtain ⟨pa, pc, he, hb5, ho⟩ := hpost
        subst he
        rcases ho with ⟨ho0, ho1 | ⟨g0, o0x, rfl, hg1, hg2, hc, hfz⟩⟩
        · have := HM.out; omega
        have hx := hc m (by rw [HM.out]; omega)
        rw [H2.out] at hx
        rw [HM.out]
        have HQ0 : Hid (lst t.T key (t.n + 1) t.root.toNat < t.n) := HQ.out
        clear hc hfz HM H2 HWP ho0 hg1 hg2
        have HO5 : Hid (OwnNd w5 M w3.heap.size (some ⟨b, off, none⟩) t.n t.T) := HO4.out.below hb5
        have HB5 : Hid (Below w.heap.size w w5) := below_then HB4.out hb5
        have p0 := cell_below o0 hb5
        have p1 := cell_below o1 hb5
        have v0 := cell_below z0 hb5
        have v1 := cell_below z1 hb5
        have v2 := cell_below z2 hb5
        have vf : ∀ i, w5.frozen? ⟨w.heap.size + 1, i, none⟩ = false := fun i => (hb5.frozen (p := ⟨_, i, none⟩) (by have := HMZ.out; have := HZ3.out; show w.heap.size + 1 < w4.heap.size; omega)).trans (zf i)
        have HZ5 : Hid (w3.heap.size < w5.heap.size) := Nat.lt_of_lt_of_le HZ3.out hb5.size
        clear o0 o1 z0 z1 z2 zf hb5 HO4 HB4
        obtain ⟨q, hq⟩ : ∃ q, q = lst t.T key (t.n + 1) t.root.toNat := ⟨_, rfl⟩
        have HQE : Hid (lst t.T key (t.n + 1) t.root.toNat = q) := hq.symm
        rw [← hq] at HQ HD0 HK3
        rw [← hq] at hx
        clear hq
        obtain ⟨ak, ck, k0, hy, hbl, hbh, hbf⟩ := HO5.out.leaf HQ.out
        have HY : Hid (IntsAt w5 ak (t.T q).kn (t.T q).K) := hy
        clear hy
        have hm1 : (m : Int) < (m : Int) + 1 := by omega
        have hm0 : (0 : Int) ≤ (m : Int) := by omega
        have hwm : IntKind.i64.wrap (m : Int) = (m : Int) := by rw [IntKind.wrap_i64]; omega
        have hqn : (q : Int) < (t.n : Int) := by have := HQ.out; omega
        have hq0 : (0 : Int) ≤ (q : Int) := by omega
        clear HQ0
        go_wp2_with fail
        go_quiet (fail)
        go_wp2_with fail
        clear hx hm1 hm0 hwm
        go_loopw [9, 10] (fun v i wr => ∃ k : Nat, k ≤ (t.T q).kn ∧ i = .int .i64 k ∧ Hid (Below w5.heap.size w5 wr) ∧ Hid (wr.ownsRow w5.heap.size 2 1 v (wo (t.T q).K key k).length (il (wo (t.T q).K key k)))) (fun _ i _ => (t.T q).kn - (intOf i).toNat)
        case atStart => exact ⟨0, Nat.zero_le _, rfl, below_then (below_drewN (Below.refl _ _) _) (below_new _ _), made0 _ _ (Nat.le_refl _)⟩
        case round =>
          obtain ⟨k, hk, rfl, HBr, HOr⟩ := hrel
          have kk0 := cell_below k0 HBr.out
          by_cases hlt : k < (t.T q).kn
          · have hlt' : (k : Int) < ((t.T q).kn : Int) := by omega
            have hk1 : (0 : Int) ≤ (k : Int) := by omega
            rcases HY.out.below HBr.out with h | ⟨yb, yo, rfl, hyl, hyc⟩
            · omega
            have hck := hyc k hlt
            have HK9 : Hid ((t.T q).kn ≤ 3) := HK3.out
            have hk9 : (t.T q).kn ≤ 3 := HK3.out
            clear hyc
            by_cases hx : (t.T q).K k = key
            · have HO1 : Hid (wr.ownsRow w5.heap.size 2 1 u9 (wo (t.T q).K key (k + 1)).length (il (wo (t.T q).K key (k + 1)))) := by rw [wo_no hx]; exact HOr
              have hne : ((t.T q).K k != key) = false := by simp [hx]
              clear HOr hx
              go_wp2_with fail
              go_roundw
              case rel => exact ⟨k + 1, hlt, by go_num, HBr, HO1⟩
              case measure => simp [intOf]; omega
            · have hne : ((t.T q).K k != key) = true := by simp [hx]
              have HX : Hid ((t.T q).K k ≠ key) := hx
              have HLE : Hid ((wo (t.T q).K key k).length + 1 ≤ 100000) := by have := wo_len (t.T q).K key k; have := HK9.out; show _ ≤ _; omega
              clear hx
              go_wp2_with (at_builtin; refine wpList_appN _ rfl (.tmp 57) (.tmp 65) rfl w5.heap.size _ (wo (t.T q).K key k) rfl (own_belowI HOr.out (below_new _ _)) _ 1 1 (fun _ => (t.T q).K k) rfl (.inr ⟨wr.heap.size, 0, rfl, by simp, fun i hi => by (obtain rfl : i = 0 := by omega); simp [go_sem]⟩) HLE.out (Nat.le_trans HBr.out.size (by simp)) ?_)
              intro v1 w9 ho1 hg1
              have HO1 : Hid (w9.ownsRow w5.heap.size 2 1 v1 (wo (t.T q).K key (k + 1)).length (il (wo (t.T q).K key (k + 1)))) := by
                rw [wo_yes HX.out, List.length_append]
                exact ho1
              have HB9 : Hid (Below w5.heap.size w5 w9) := (below_then HBr.out (below_new _ _)).grown hg1 (Nat.le_trans HBr.out.size (by simp)) (fun q hq => (HOr.out.lt q hq).1)
              clear ho1 hg1
              go_wp2_with fail
              go_roundw
              case rel => exact ⟨k + 1, hlt, by go_num, HB9, HO1⟩
              case measure => simp [intOf]; omega
          · have hkn : k = (t.T q).kn := by omega
            have hnl : ¬ ((k : Int) < ((t.T q).kn : Int)) := by omega
            rw [hkn] at HOr
            obtain ⟨w6, rfl⟩ : ∃ x, x = wr := ⟨wr, rfl⟩
            have hb6 := HBr.out
            have hro := HOr.out
            obtain ⟨ka, kc, rfl, hko⟩ := ownI_of_row hro
            have HKC : Hid ((wo (t.T q).K key (t.T q).kn).length ≤ kc) := own_capN hro
            have HKO : Hid (OwnI w6 w5.heap.size w6.heap.size ka (wo (t.T q).K key (t.T q).kn).length (zI (wo (t.T q).K key (t.T q).kn))) := hko
            clear hro hko HBr HOr kk0 hlt
            have HO6 : Hid (OwnNd w6 M w3.heap.size (some ⟨b, off, none⟩) t.n t.T) := HO5.out.below hb6
            have HB6 : Hid (Below w.heap.size w w6) := below_then HB5.out hb6
            have HL6 : Hid (w5.heap.size ≤ w6.heap.size) := hb6.size
            have t0 := cell_below p0 hb6
            have t1 := cell_below p1 hb6
            have u0 := cell_below v0 hb6
            have u1 := cell_below v1 hb6
            have u2 := cell_below v2 hb6
            have uf : ∀ i, w6.frozen? ⟨w.heap.size + 1, i, none⟩ = false := fun i => (hb6.frozen (p := ⟨_, i, none⟩) (by have := HMZ.out; have := HZ5.out; show w.heap.size + 1 < w5.heap.size; omega)).trans (vf i)
            have kk := cell_below k0 hb6
            have kf : ∀ i, w6.frozen? ⟨b, i, none⟩ = false := fun i => (hb6.frozen (p := ⟨_, i, none⟩) (by have := HZ5.out; show b < w5.heap.size; omega)).trans (hbf i)
            clear p0 p1 v0 v1 v2 vf k0 hbf hb6 HO5 HB5 HY
            have HEND : Hid (∀ w8, Writes w.heap.size (w.heap.size + 2) (w6.setCell ⟨b, off + q * 3 + 1, none⟩ (.slice ka (wo (t.T q).K key (t.T q).kn).length kc)) w8 → w8.heap.size = w6.heap.size → TRes (ckC t key) (ckT t key) w (.returned (.agg #[.int .i64 0, .int .i64 t.root, .slice (some ⟨b, off, none⟩) t.n vc])) w8) := fun w8 h1 h2 => by
              have hz := HMZ.out
              have hz5 := HZ5.out
              refine tres_yes HC0.out ?_ ?_
              · exact Writes.below (Writes.below HB6.out (lo := b) (hi := b + 1) (Writes.setCell (Writes.refl _ _ _) (p := ⟨b, _, none⟩) (Nat.le_refl _) (Nat.lt_succ_self _) _) (by omega)) h1 (Nat.le_refl _)
              · show OwnNd w8 _ _ _ (cutT t key).n (cutT t key).T
                unfold cutT
                rw [HQE.out]
                rw [h2]
                exact ((HO6.out.keys HQ.out HD0.out (Nat.le_of_lt hz5) HL6.out (Nat.le_refl _) HKC.out HKO.out).writes h1 (.inr hz.1)).wide (by omega) (Nat.le_refl _) (by rw [h2]; exact Nat.le_refl _)
            clear HO6 HKO HB6
            have g0 : (w6.setCell ⟨b, off + q * 3 + 1, none⟩ (.slice ka (wo (t.T q).K key (t.T q).kn).length kc)).cell? ⟨w3.heap.size, 0, none⟩ = some (.int .i64 t.root) := by rw [World.cell?_setCell_far _ _ _ _ (by show b ≠ w3.heap.size; omega)]; exact t0
            have g1 : (w6.setCell ⟨b, off + q * 3 + 1, none⟩ (.slice ka (wo (t.T q).K key (t.T q).kn).length kc)).cell? ⟨w3.heap.size, 1, none⟩ = some (.slice (some ⟨b, off, none⟩) t.n vc) := by rw [World.cell?_setCell_far _ _ _ _ (by show b ≠ w3.heap.size; omega)]; exact t1
            have e0 : (w6.setCell ⟨b, off + q * 3 + 1, none⟩ (.slice ka (wo (t.T q).K key (t.T q).kn).length kc)).cell? ⟨w.heap.size + 1, 0, none⟩ = some (.int .i64 0) := by rw [World.cell?_setCell_far _ _ _ _ (by have := HMZ.out; show b ≠ w.heap.size + 1; omega)]; exact u0
            have e1 : (w6.setCell ⟨b, off + q * 3 + 1, none⟩ (.slice ka (wo (t.T q).K key (t.T q).kn).length kc)).cell? ⟨w.heap.size + 1, 1, none⟩ = some (.int .i64 0) := by rw [World.cell?_setCell_far _ _ _ _ (by have := HMZ.out; show b ≠ w.heap.size + 1; omega)]; exact u1
            have e2 : (w6.setCell ⟨b, off + q * 3 + 1, none⟩ (.slice ka (wo (t.T q).K key (t.T q).kn).length kc)).cell? ⟨w.heap.size + 1, 2, none⟩ = some (.slice none 0 0) := by rw [World.cell?_setCell_far _ _ _ _ (by have := HMZ.out; show b ≠ w.heap.size + 1; omega)]; exact u2
            have ef : ∀ i, (w6.setCell ⟨b, off + q * 3 + 1, none⟩ (.slice ka (wo (t.T q).K key (t.T q).kn).length kc)).frozen? ⟨w.heap.size + 1, i, none⟩ = false := fun i => by rw [World.frozen?_setCell]; exact uf i
            have HSZ7 : Hid ((w6.setCell ⟨b, off + q * 3 + 1, none⟩ (.slice ka (wo (t.T q).K key (t.T q).kn).length kc)).heap.size = w6.heap.size) := by show _ = _; simp [World.setCell]
            go_upto_region 18 with fail
            generalize hw7 : w6.setCell ⟨b, off + q * 3 + 1, none⟩ (.slice ka (wo (t.T q).K key (t.T q).kn).length kc) = w7 at *
            clear hw7 t0 t1 u0 u1 u2 uf kk kf HKC HL6
            go_wp2_with fail
            refine bodyPost_ret (v := .agg #[.int .i64 0, .int .i64 t.root, .slice (some ⟨b, off, none⟩) t.n vc]) (by simp [results, Try.results29, go_sem, e0, e1, e2]) rfl ?_
            refine HEND.out _ ?_ (by rw [← HSZ7.out]; simp [World.setCell])
            repeat (first | with_reducible exact Writes.refl _ _ _ | with_reducible refine Writes.setCell ?_ (by first | omega | (simp <;> omega)) (by first | omega | (simp <;> omega)) _)
  · have hne : (trF t != 0) = true := by simp [hg]
    obtain ⟨tc, htc⟩ : ∃ x, x = trF t := ⟨_, rfl⟩
    have e1 : ptC t key = trF t := by unfold ptC; rw [if_pos hg]
    have HC : Hid (ckC t key = tc ∧ tc ≠ 0) := ⟨by unfold ckC; rw [e1, if_pos hg, htc], by rw [htc]; exact hg⟩
    rw [← htc] at hne ⊢
    clear hg htc e1
    go_wp2_with fail
    refine bodyPost_ret (v := .agg #[.int .i64 tc, .int .i64 0, .slice none 0 0]) (by simp [results, Try.results29, go_sem, s0', s1', s2']) rfl ?_
    refine tres_no HC.out ?_
    repeat (first | with_reducible exact HB1.out | with_reducible refine Below.setCell ?_ (by first | omega | (simp <;> omega)) _)
end Go.Proofs.Ytbnehgpefjbheaa
