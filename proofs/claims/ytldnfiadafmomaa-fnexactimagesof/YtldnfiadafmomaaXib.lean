/- impl.wholeSheets, impl.pagesOf of many sheets, impl.ImagesOf. -/
import Derived.Test.YtldnfiadafmomaaXia
import Derived.Test.YtldnfiadafmomaaPla
import Derived.Test.YtldnfiadafmomaaDf
namespace Go.Proofs.Ytldnfiadafmomaa
open Go.RowKit Go.Deep
set_option linter.unusedVariables false
set_option maxRecDepth 20000

set_option maxHeartbeats 800000 in
theorem pagesOf_many (n : Nat) (Z : Nat → Nat → Int) (b cap : Nat) (w : World) (hn : n ≤ 64) (hbl : b < w.heap.size) (hr : ∀ i, i < n → w.rangeAt b (i * 48) (bvs (Z i) 48)) :
    Calls Try.prog 22 #[.slice (some ⟨b, 0, none⟩) n cap] w fun e w' => ∃ v, e = .returned v ∧ Below w.heap.size w w' ∧ AP w.heap.size w' v n (fun _ => 48) Z := by
  obtain ⟨i0, hi, hz0, hz1, hz2⟩ := info_parts info22
  have HI : Hid (Try.prog.info? 55 = some i0 ∧ i0.zero = some (.slice none 0 0) ∧ i0.size = 1 ∧ i0.bytes = 24) := ⟨hi, hz0, hz1, hz2⟩
  have HR : Hid (∀ i, i < n → w.rangeAt b (i * 48) (bvs (Z i) 48)) := hr
  clear hi hz0 hz1 hz2 hr
  go_enter Try.func22, Try.ntmps22
  go_wp2_with fail
  go_loopw [3, 5, 8] (fun v _ i wr => ∃ k : Nat, k ≤ n ∧ i = .int .i64 k ∧ Below w.heap.size w wr ∧ AP w.heap.size wr v k (fun _ => 48) Z) (fun _ _ i _ => n - (intOf i).toNat)
  case atStart => exact ⟨0, by omega, rfl, Below.refl _ _, AP.nil _ _ _ _⟩
  case round =>
    obtain ⟨k, hk, rfl, hb, ho⟩ := hrel
    by_cases hlt : k < n
    · have HO : Hid (AP w.heap.size wr u3 k (fun _ => 48) Z) := ho
      have HB : Hid (Below w.heap.size w wr) := hb
      have HRk : Hid (wr.rangeAt b (k * 48) (bvs (Z k) 48)) := fun j v hv => (hb.cell (p := ⟨b, _, none⟩) hbl).trans (HR.out k hlt j v hv)
      have hlt' : (k : Int) < (n : Int) := by omega
      clear ho hb
      go_wp2_with (first | (refine wpList_load_mid (by rfl) 66 (.tmp 10) (by rfl) b (k * 48) (by rfl) (bvs (Z k) 48) _ HRk.out Try.underlying66 rfl (by rw [size147, bvs_len]) ?_) | (refine wpList_store_new (by rfl) 66 (.tmp 5) (.tmp 11) (by rfl) (zeros 48).toArray (bvs (Z k) 48).toArray (by rfl) (by rfl) (by rw [size147, bvs_size]) (by rw [bvs_size, zeros_size]) (all_oneCell_toArray (bvs_one _ _)) ?_) | (refine wpList_load_mid (by rfl) 66 (.tmp 5) (by rfl) wr.heap.size 0 (by rfl) (bvs (Z k) 48) _ (range_block (heap_alloc_last _ _)) Try.underlying66 rfl (by rw [size147, bvs_len]) ?_))
      refine (shBytes_any (Z k) _).mono ?_
      rintro e w1 ⟨G, C, rfl, hb1, hG0, hG1, hrow, hC⟩
      rw [World.size_alloc] at hG0
      have hbw : Below wr.heap.size wr w1 := below_then (below_new _ _) hb1
      have hwr : w.heap.size ≤ wr.heap.size := HB.out.size
      have HB1 : Hid (Below w.heap.size w w1) := below_then HB.out hbw
      obtain ⟨g, c, hown, hj, hc⟩ := HO.out
      have HV : Hid (∀ q, u3.ownBlock = some q → w.heap.size ≤ q ∧ q < wr.heap.size) := fun q hq => hown.lt q hq
      have HOW : Hid (w1.ownsRow w.heap.size 55 1 u3 k (slv g (fun _ => 48) c k)) := own_below hown hbw
      have HJ : Hid (∀ i j, i < k → j < k → g i = g j → i = j) := hj
      have HCC : Hid (∀ i, i < k → w.heap.size ≤ g i ∧ g i < w1.heap.size ∧ u3.ownBlock ≠ some (g i) ∧ Row1 w1 (g i) 0 48 (Z i) ∧ 48 ≤ c i) := fun i hi => by
        obtain ⟨h1, h2, h3, h4, h5⟩ := hc i hi
        exact ⟨h1, Nat.lt_of_lt_of_le h2 hbw.size, h3, h4.block (hbw.block _ h2), h5⟩
      have HNE : Hid (∀ i, i < k → g i ≠ G) := fun i hi => by have := (hc i hi).2.1; omega
      have HG : Hid (w.heap.size ≤ G ∧ G < w1.heap.size ∧ u3.ownBlock ≠ some G ∧ Row1 w1 G 0 48 (Z k) ∧ 48 ≤ C) := ⟨by omega, hG1, fun e => by have := (hown.lt G e).2; omega, hrow, hC⟩
      clear hb1 hG0 hG1 hrow hC hbw hown hj hc HO HRk
      go_wp2_with (at_builtin; refine wpList_append_lies _ rfl (.tmp 12) (.tmp 15) 22 rfl w.heap.size 55 i0 (.slice none 0 0) 1 24 Try.underlying22 HI.out.1 HI.out.2.1 HI.out.2.2.1 HI.out.2.2.2 rfl (by decide) _ k (slv g (fun _ => 48) c k) rfl (HOW.out.alloc _) ⟨w1.heap.size, 0, none⟩ 1 1 [.slice (some ⟨G, 0, none⟩) 48 C] rfl rfl (cell_one_new _ _ _) ?c2 (by decide) ?c3 ?c4 ?c5 _ rfl ?_)
      case c2 => intro u hu; simp at hu; subst hu; rfl
      case c3 => unfold maxLen; omega
      case c4 => omega
      case c5 => have := HB1.out.size; rw [World.size_alloc]; omega
      intro g' cap' w2 ho2 hg2 hl2 hlt2
      have HA2 : Hid (AP w.heap.size w2 (.slice (some ⟨g', 0, none⟩) (k + 1) cap') (k + 1) (fun _ => 48) Z) :=
        AP.step HJ.out HCC.out HG.out.1 HG.out.2.1 HG.out.2.2.1 HNE.out HG.out.2.2.2.1 HG.out.2.2.2.2 ho2 hg2 hl2
      have HB2 : Hid (Below w.heap.size w w2) := Below.grown (HB1.out.alloc HB1.out.size _) hg2 (by rw [World.size_alloc]; have := HB1.out.size; omega) (fun q hq => (HV.out q hq).1)
      clear ho2 hg2 hl2 hlt2
      go_wp2_with fail
      go_roundw
      case rel => exact ⟨k + 1, hlt, by go_num, HB2.out, HA2.out⟩
      case measure => simp [intOf]; omega
    · have hkn : k = n := by omega
      have HO : Hid (AP w.heap.size wr u3 n (fun _ => 48) Z) := by have h := ho; rw [hkn] at h; exact h
      clear ho
      go_wp2_with fail
      go_ret
      exact ⟨_, rfl, hb, HO.out⟩
theorem own_base {w : World} {base n : Nat} {e : TypeId} {s : Nat} {v : Value} {xs : List Value} (h : w.ownsRow (base + 1) e s v n xs) : w.ownsRow base e s v n xs := by
  refine ⟨h.1, ?_⟩
  rcases h.2 with q | ⟨g, cap, cur, e1, e2, e3⟩
  · exact .inl q
  · exact .inr ⟨g, cap, cur, e1, by omega, e3⟩
theorem sheets_range {w : World} {base g n cap : Nat} {Z : Nat → Nat → Int} (h : w.ownsRow base 66 48 (.slice (some ⟨g, 0, none⟩) n cap) n (shl Z n)) : ∀ i, i < n → w.rangeAt g (i * 48) (bvs (Z i) 48) := fun i hi j v hv => by
  obtain ⟨hj, rfl⟩ := bvs_get _ _ _ _ hv
  have q := shl_get Z n i j hi hj
  rw [h.cellAt (i * 48 + j) (by omega), q]
  exact hv
theorem own_first {w : World} {base n : Nat} {v : Value} {Z : Nat → Nat → Int} (h : w.ownsRow base 66 48 v n (shl Z n)) (hn : 1 ≤ n) : ∃ g cap, v = .slice (some ⟨g, 0, none⟩) n cap ∧ g < w.heap.size := by
  have q := h.lt
  rcases h.2 with ⟨rfl, h0⟩ | ⟨g, cap, cur, rfl, hbg, hg, _⟩
  · omega
  · exact ⟨g, cap, rfl, (q g rfl).2⟩
set_option maxHeartbeats 4000000 in
theorem wholeSheets_any (D : Dk) (idn : Nat) (a a' : Option Addr) (cap cap' : Nat) (w : World) (hG : GoodD D) (hid : idn < D.n) (hcap : D.m ≤ cap') (h : DiskAt w a a' D) :
    Calls Try.prog 23 #[.agg #[.slice a D.n cap, .slice a' D.m cap'], .int .i64 idn] w fun e w' => ∃ v, e = .returned v ∧ Below w.heap.size w w' ∧ w'.ownsRow w.heap.size 66 48 v (imN D idn D.m) (shl (imZ D idn) (imN D idn D.m)) := by
  obtain ⟨i0, hi, hz0, hz1, hz2⟩ := info_parts info147
  have HI : Hid (Try.prog.info? 66 = some i0 ∧ i0.zero = some (.agg (zeros 48).toArray) ∧ i0.size = 48 ∧ i0.bytes = 48) := ⟨hi, hz0, hz1, hz2⟩
  have HL : Hid (LoosesAt w a' D.m D.P D.T D.M D.Y) := h.2
  have HM : Hid (∀ i, i < D.m → D.M i = 16) := hG.M
  have hm60 := hG.m
  rcases h.1 with hp | ⟨b, off, rfl, hbl, hc⟩
  · omega
  obtain ⟨ai, ci, h1, hy, hci⟩ := hc idn hid
  rw [hG.L idn hid] at h1 hy hci
  have h1a := fun o : Obj => cell_alloc h1 o
  have HY : Hid (BytesAt w ai 48 (D.Z idn)) := hy
  have hid' : (idn : Int) < (D.n : Int) := by omega
  have hid0 : (0 : Int) ≤ (idn : Int) := by omega
  clear hi hz0 hz1 hz2 h hc hy hG h1
  go_enter Try.func23, Try.ntmps23
  go_wp2_with fail
  refine (sheetOf_any (D.Z idn) ai ci _ hci (HY.out.below (below_new _ _))).mono ?_
  rintro e w1 ⟨rfl, hb1⟩
  have HB1 : Hid (Below w.heap.size w w1) := below_then (below_new _ _) hb1
  have q0 : w1.cell? ⟨w.heap.size, 1, none⟩ = some (.slice a' D.m cap') := cell_below (by simp [go_sem]) hb1
  have qa := fun o : Obj => cell_alloc q0 o
  have hz1 : w.heap.size < w1.heap.size := Go.block_lt_of_cell q0
  clear hb1 h1a
  go_wp2_with (refine wpList_bs147 (by rfl) (.tmp 13) (by rfl) (bvs (D.Z idn) 48).toArray (by rfl) (bvs_size _ _) ?_)
  go_loopw [5, 6, 7, 18] (fun v _ _ i wr => ∃ k : Nat, k ≤ D.m ∧ i = .int .i64 k ∧ Hid (Below w.heap.size w wr) ∧ wr.cell? ⟨w.heap.size, 1, none⟩ = some (.slice a' D.m cap') ∧ Hid (wr.ownsRow (w.heap.size + 1) 66 48 v (imN D idn k) (shl (imZ D idn) (imN D idn k)))) (fun _ _ _ i _ => D.m - (intOf i).toNat)
  case atStart =>
    refine ⟨0, Nat.zero_le _, rfl, below_then HB1.out (below_new _ _), qa _, ?_⟩
    have q := World.ownsRow_lit (base := w.heap.size + 1) (size := 48) (e := 66) w1 (bvs (D.Z idn) 48).toArray 1 hz1 (by unfold maxLen; omega) (bvs_size _ _)
    have e1 : imN D idn 0 = 1 := rfl
    show World.ownsRow _ _ _ _ _ _ _
    rw [e1, shl, shl, imZ_zero, List.nil_append]
    exact q
  case round =>
    obtain ⟨k, hk, rfl, HB, qb, HO⟩ := hrel
    have hzr := HB.out.size
    have hb1 : w.heap.size + 1 ≤ wr.heap.size := Go.block_lt_of_cell qb
    by_cases hlt : k < D.m
    · obtain ⟨b2, off2, rfl⟩ : ∃ b2 off2, a' = some ⟨b2, off2, none⟩ := by
        rcases HL.out with q | ⟨b2, off2, q, _⟩
        · omega
        · exact ⟨b2, off2, q⟩
      have hlt' : (k : Int) < (D.m : Int) := by omega
      have hk0 : (0 : Int) ≤ (k : Int) := by omega
      have hkc : (k : Int) ≤ (D.m : Int) := by omega
      have hkm : (D.m : Int) ≤ (cap' : Int) := by omega
      have hne : ¬ (cap' = k) := by omega
      have hne' : ¬ ((cap' : Int) = (k : Int)) := by omega
      have HD : Hid (LoosesAt wr (some ⟨b2, off2 + k * 3, none⟩) (D.m - k) (fun j => D.P (k + j)) (fun j => D.T (k + j)) (fun j => D.M (k + j)) (fun j => D.Y (k + j))) := (HL.out.below HB.out).drop hlt
      cases hwh : whB D (idn : Int) k
      · have HN : Hid (wr.ownsRow (w.heap.size + 1) 66 48 u5 (imN D idn (k + 1)) (shl (imZ D idn) (imN D idn (k + 1)))) := by have q := HO.out; rw [← im_no hwh] at q; exact q
        have HW : Hid (swB (fun j => D.P (k + j)) (fun j => D.T (k + j)) (D.m - k) (idn : Int) = false) := hwh
        clear hwh
        go_wp2_with fail
        refine (startsWithPage_any (D.m - k) _ _ _ _ (idn : Int) _ _ wr (by omega) HD.out).mono ?_
        rw [HW.out]
        rintro e w2 ⟨rfl, hw2⟩
        rw [hw2]
        clear hw2 w2
        go_wp2_with fail
        go_roundw
        case rel => exact ⟨k + 1, hlt, by go_num, HB, qb, HN⟩
        case measure => simp [intOf]; omega
      · have HW : Hid (swB (fun j => D.P (k + j)) (fun j => D.T (k + j)) (D.m - k) (idn : Int) = true) := hwh
        have hk2 : k + 2 < D.m := (whB_iff.1 hwh).1
        have HZ : Hid (imZ D idn (imN D idn k) = pcZ D k) := imZ_new hwh hlt
        have HE : Hid (imN D idn (k + 1) = imN D idn k + 1) := im_yes hwh
        have hle := (imN_le D idn k).2
        clear hwh
        go_wp2_with fail
        refine (startsWithPage_any (D.m - k) _ _ _ _ (idn : Int) _ _ wr (by omega) HD.out).mono ?_
        rw [HW.out]
        rintro e w2 ⟨rfl, hw2⟩
        rw [hw2]
        clear hw2 w2
        go_wp2_with fail
        refine (joinedPieces_any (D.m - k) _ _ _ _ _ _ wr (by omega) (fun i hi => HM.out (k + i) (by omega)) HD.out).mono ?_
        rintro e w3 ⟨rfl, hb3⟩
        have hjz : jZ (fun j => D.Y (k + j)) = pcZ D k := rfl
        rw [hjz]
        have HO3 : Hid (w3.ownsRow (w.heap.size + 1) 66 48 u5 (imN D idn k) (shl (imZ D idn) (imN D idn k))) := own_below HO.out hb3
        have HB3 : Hid (Below w.heap.size w w3) := below_then HB.out hb3
        have qc := cell_below qb hb3
        have hz3 : w.heap.size + 1 ≤ w3.heap.size := Go.block_lt_of_cell qc
        clear hb3 hjz
        obtain ⟨N, hN⟩ : ∃ N, N = imN D idn k := ⟨_, rfl⟩
        rw [← hN] at HO3 HZ HE hle
        have HNN : Hid (N = imN D idn k) := hN
        clear hN HO
        go_wp2_with (first | (at_builtin; refine wpList_append_own _ rfl (.tmp 28) (.tmp 31) 49 rfl (w.heap.size + 1) 66 i0 (.agg (zeros 48).toArray) 48 48 Try.underlying49 HI.out.1 HI.out.2.1 HI.out.2.2.1 HI.out.2.2.2 zeros48_cells (by decide) _ N (shl (imZ D idn) N) rfl (HO3.out.alloc _) ⟨w3.heap.size, 0, none⟩ 1 1 (bvs (pcZ D k) 48) rfl ?c1 ?c2 (bvs_one _ _) ?c3 ?c4 ?c5 ?_) | (refine wpList_bs147 (by rfl) (.tmp 30) (by rfl) (bvs (pcZ D k) 48).toArray (by rfl) (bvs_size _ _) ?_))
        case c1 => rw [bvs_len]
        case c2 =>
          intro j u hu
          rw [Addr.add_mid]
          exact range_block (heap_alloc_last _ _) j u hu
        case c3 => unfold maxLen; omega
        case c4 => omega
        case c5 => rw [World.size_alloc]; omega
        intro v2 w4 ho4 hg4 _
        have HO4 : Hid (w4.ownsRow (w.heap.size + 1) 66 48 v2 (imN D idn (k + 1)) (shl (imZ D idn) (imN D idn (k + 1)))) := by
          show World.ownsRow _ _ _ _ _ _ _
          rw [HE.out, shl, HZ.out]
          exact ho4
        have hgr : ∀ q, u5.ownBlock = some q → w.heap.size + 1 ≤ q := fun q hq => (HO3.out.lt q hq).1
        have HB4 : Hid (Below w.heap.size w w4) := Below.grown (HB3.out.alloc HB3.out.size _) hg4 (by rw [World.size_alloc]; omega) (fun q hq => by have := hgr q hq; omega)
        have qd : w4.cell? ⟨w.heap.size, 1, none⟩ = some (.slice (some ⟨b2, off2, none⟩) D.m cap') := hg4.cell (cell_alloc qc _) (fun e => by have h9 := hgr w.heap.size e.symm; omega)
        clear ho4 hg4 hgr
        go_wp2_with fail
        go_roundw
        case rel => exact ⟨k + 1, hlt, by go_num, HB4, qd, HO4⟩
        case measure => simp [intOf]; omega
    · have hkn : k = D.m := by omega
      have HO2 : Hid (wr.ownsRow (w.heap.size + 1) 66 48 u5 (imN D idn D.m) (shl (imZ D idn) (imN D idn D.m))) := by have q := HO.out; rw [hkn] at q; exact q
      have hnl : ¬ ((k : Int) < (D.m : Int)) := by omega
      clear HO hkn
      go_wp2_with fail
      go_ret
      exact ⟨_, rfl, HB.out, own_base HO2.out⟩
/-- ImagesOf's code; how many images. -/
def ioC (D : Dk) (x : Int) : Int := if df D = 0 then (if inB x 0 ((D.n : Int) - 1) = true then 0 else 3) else df D
def ioN (D : Dk) (x : Int) : Nat := if ioC D x = 0 then imN D x.toNat D.m else 0
def ioZ (D : Dk) (x : Int) : Nat → Nat → Int := imZ D x.toNat
def PtRes (c : Int) (n : Nat) (Z : Nat → Nat → Int) (w : World) (e : Ending) (w' : World) : Prop :=
  ∃ a cap, e = .returned (.agg #[.int .i64 c, .slice a n cap]) ∧ Below w.heap.size w w' ∧ OwnP w' w.heap.size w'.heap.size a n (fun _ => 48) Z
theorem io_bad {D : Dk} {x c : Int} (h : ioC D x = c) (hc : c ≠ 0) : ioC D x = c ∧ ioN D x = 0 := ⟨h, by unfold ioN; rw [h, if_neg hc]⟩
theorem ptres_bad {c : Int} {Z : Nat → Nat → Int} {w w' : World} (hb : Below w.heap.size w w') : PtRes c 0 Z w (.returned (.agg #[.int .i64 c, .slice none 0 0])) w' :=
  ⟨none, 0, rfl, hb, Nat.le_refl _, .inl rfl⟩
set_option maxHeartbeats 4000000 in
theorem implIo_any (D : Dk) (x : Int) (a a' : Option Addr) (cap cap' : Nat) (w : World) (hs : Small D) (hcap : D.m ≤ cap') (h : DiskAt w a a' D) :
    Calls Try.prog 7 #[.agg #[.slice a D.n cap, .slice a' D.m cap'], .int .i64 x] w (PtRes (ioC D x) (ioN D x) (ioZ D x) w) := by
  have hb0 : ∀ o1 o2, Below w.heap.size w ((w.alloc o1).alloc o2) := fun o1 o2 => ((Below.refl _ _).alloc (Nat.le_refl _) _).alloc (by simp) _
  have HA : Hid (DiskAt w a a' D) := h
  have HS : Hid (Small D) := hs
  have hn8 := hs.n
  clear h hs
  go_enter Try.func7, Try.ntmps7
  go_wp2_with fail
  refine (implDf_any D a a' cap cap' _ HS.out (HA.out.below (hb0 _ _))).mono ?_
  rintro e w1 ⟨rfl, hb1⟩
  obtain ⟨hcc, hff⟩ := bcell hb1
  have hz1 : w.heap.size + 2 ≤ w1.heap.size := by have := hb1.size; simp at this; omega
  have q0 : w1.cell? ⟨w.heap.size, 0, none⟩ = some (.slice a D.n cap) := by rw [hcc _ _ (by simp <;> omega)]; simp [go_sem]
  have q1 : w1.cell? ⟨w.heap.size, 1, none⟩ = some (.slice a' D.m cap') := by rw [hcc _ _ (by simp <;> omega)]; simp [go_sem]
  have r0 : w1.cell? ⟨w.heap.size + 1, 0, none⟩ = some (.int .i64 0) := by rw [hcc _ _ (by simp <;> omega)]; simp [go_sem]
  have r1 : w1.cell? ⟨w.heap.size + 1, 1, none⟩ = some (.slice none 0 0) := by rw [hcc _ _ (by simp <;> omega)]; simp [go_sem]
  have fz : ∀ i, w1.frozen? ⟨w.heap.size + 1, i, none⟩ = false := fun i => by rw [hff _ _ (by simp <;> omega)]; simp [go_sem]
  have HB1 : Hid (Below w.heap.size w w1) := below_then (hb0 _ _) hb1
  clear hcc hff hb1 hb0
  by_cases h0 : df D = 0
  case neg =>
    have hd : (df D != 0) = true := by simpa using h0
    have HX : Hid (∀ w', Below w.heap.size w w' → PtRes (ioC D x) (ioN D x) (ioZ D x) w (.returned (.agg #[.int .i64 (df D), .slice none 0 0])) w') := fun w' hb => by
      obtain ⟨e1, e2⟩ := io_bad (D := D) (x := x) (c := df D) (by unfold ioC; rw [if_neg h0]) h0
      rw [e1, e2]; exact ptres_bad hb
    clear h0
    generalize df D = c at *
    go_wp2_with fail
    refine bodyPost_ret (v := .agg #[.int .i64 c, .slice none 0 0]) (by simp [results, Try.results7, go_sem, *]) rfl ?_
    refine HX.out _ ?_
    repeat (first | with_reducible exact HB1.out | with_reducible refine Below.setCell ?_ (by first | omega | (simp <;> omega)) _)
  have hG := goodD_of h0
  have H0 : Hid (df D = 0) := h0
  rw [h0]
  clear h0
  cases hx : inB x 0 ((D.n : Int) - 1)
  · have HX : Hid (∀ w', Below w.heap.size w w' → PtRes (ioC D x) (ioN D x) (ioZ D x) w (.returned (.agg #[.int .i64 3, .slice none 0 0])) w') := fun w' hb => by
      obtain ⟨e1, e2⟩ := io_bad (D := D) (x := x) (c := 3) (by unfold ioC; rw [if_pos H0.out, if_neg (by rw [hx]; decide)]) (by decide)
      rw [e1, e2]; exact ptres_bad hb
    have HXB : Hid (inB x 0 ((D.n : Int) - 1) = false) := hx
    clear hx
    go_wp2_with fail
    refine (isPlace_any x D.n _ hn8).mono ?_
    rw [HXB.out]
    rintro e w2 ⟨rfl, hw2⟩
    rw [hw2]
    clear hw2 w2
    go_wp2_with fail
    refine bodyPost_ret (v := .agg #[.int .i64 3, .slice none 0 0]) (by simp [results, Try.results7, go_sem, *]) rfl ?_
    refine HX.out _ ?_
    repeat (first | with_reducible exact HB1.out | with_reducible refine Below.setCell ?_ (by first | omega | (simp <;> omega)) _)
  · have hxx := inB_iff.1 hx
    obtain ⟨k, rfl⟩ : ∃ k : Nat, x = (k : Int) := ⟨x.toNat, by omega⟩
    have hkn : k < D.n := by omega
    have HXB : Hid (inB (k : Int) 0 ((D.n : Int) - 1) = true) := hx
    have HR : Hid (ioC D (k : Int) = 0 ∧ ioN D (k : Int) = imN D k D.m ∧ ioZ D (k : Int) = imZ D k) := by
      have e : ioC D (k : Int) = 0 := by unfold ioC; rw [if_pos H0.out, if_pos hx]
      exact ⟨e, by unfold ioN; rw [if_pos e, Int.toNat_natCast], by unfold ioZ; rw [Int.toNat_natCast]⟩
    clear hx hxx
    go_wp2_with fail
    refine (isPlace_any (k : Int) D.n _ hn8).mono ?_
    rw [HXB.out]
    rintro e w2 ⟨rfl, hw2⟩
    rw [hw2]
    clear hw2 w2
    go_wp2_with fail
    refine (wholeSheets_any D k a a' cap cap' w1 hG hkn hcap (HA.out.below HB1.out)).mono ?_
    rintro e w3 ⟨v3, rfl, hb3, ho3⟩
    obtain ⟨g, cp, rfl, hg⟩ := own_first ho3 (imN_le D k D.m).1
    have HRG : Hid (∀ i, i < imN D k D.m → w3.rangeAt g (i * 48) (bvs (imZ D k i) 48)) := sheets_range ho3
    have hnn : imN D k D.m ≤ 64 := by have := (imN_le D k D.m).2; have := hG.m; omega
    have HB3 : Hid (Below w1.heap.size w1 w3) := hb3
    clear hb3 ho3
    obtain ⟨nn, HNN⟩ : ∃ nn, Hid (imN D k D.m = nn) := ⟨_, rfl⟩
    rw [HNN.out] at HRG hnn ⊢
    go_wp2_with fail
    refine (pagesOf_many nn (imZ D k) g cp w3 hnn hg HRG.out).mono ?_
    rintro e w4 ⟨v4, rfl, hb4, ho4⟩
    obtain ⟨a4, c4, rfl, _, hp4⟩ := ho4.own
    have HB4 : Hid (Below w1.heap.size w1 w4) := below_then HB3.out hb4
    have HP4 : Hid (OwnP w4 w3.heap.size w4.heap.size a4 nn (fun _ => 48) (imZ D k)) := hp4
    have hz3 := HB3.out.size
    have hz4 := hb4.size
    have t0 := cell_below r0 HB4.out
    have t1 := cell_below r1 HB4.out
    have tf : ∀ i, w4.frozen? ⟨w.heap.size + 1, i, none⟩ = false := fun i => (HB4.out.frozen (p := ⟨w.heap.size + 1, i, none⟩) (by show w.heap.size + 1 < w1.heap.size; omega)).trans (fz i)
    clear hb4 ho4 hp4 q0 q1 r0 r1 fz
    go_wp2_with fail
    refine bodyPost_ret (v := .agg #[.int .i64 0, .slice a4 nn c4]) (by simp [results, Try.results7, go_sem, *]) rfl ?_
    rw [HR.out.1, HR.out.2.1, HR.out.2.2, HNN.out]
    have HW : Hid (Writes (w.heap.size + 1) (w.heap.size + 2) w4 ((w4.setCell ⟨w.heap.size + 1, 0, none⟩ (.int .i64 0)).setCell ⟨w.heap.size + 1, 1, none⟩ (.slice a4 nn c4))) := ((Writes.refl _ _ _).setCell (p := ⟨w.heap.size + 1, 0, none⟩) (Nat.le_refl _) (by show w.heap.size + 1 < _; omega) _).setCell (p := ⟨w.heap.size + 1, 1, none⟩) (Nat.le_refl _) (by show w.heap.size + 1 < _; omega) _
    refine ⟨a4, c4, rfl, Writes.below (below_then HB1.out HB4.out) HW.out (by omega), ?_⟩
    have hq := (HP4.out.writes HW.out (.inr (by omega))).wide (lo' := w.heap.size) (hi' := w4.heap.size) (by omega) (Nat.le_refl _) (by simp)
    simpa using hq
end Go.Proofs.Ytldnfiadafmomaa
