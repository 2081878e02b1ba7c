/- Pieces, PlaceDisk. -/
import Derived.Test.YtaokclhcmgbgnaaGreatQZdb
import Derived.Test.YtaokclhcmgbgnaaGreatQDg
namespace Go.Proofs.YtaokclhcmgbgnaaGreat
open Go.ChangeShapes Go.WideShapes Go.ChangeAt Go.RowKit Go.Deep Go.Joins
set_option linter.unusedVariables false
set_option linter.unusedSimpArgs false
set_option maxRecDepth 20000
open Go.RowKit Go.Deep

def pcP (idn : Int) (_ : Nat) : Int := idn
def pcT (i : Nat) : Int := i
def pcY (z : Nat → Int) (i q : Nat) : Int := z (16 * i + q)
theorem roundD {wr w2 w4 : World} {B j G C g2 c2 : Nat} {v : Value} {P T : Nat → Int} {Y : Nat → Nat → Int} {g c : Nat → Nat} {o2 : Obj} (hB : B ≤ wr.heap.size) (hj : ∀ x y, x < j → y < j → g x = g y → x = y)
    (hcc : ∀ i, i < j → B ≤ g i ∧ g i < wr.heap.size ∧ v.ownBlock ≠ some (g i) ∧ Row1 wr (g i) 0 16 (Y i) ∧ 16 ≤ c i) (hown : wr.ownsRow B 136 3 v j (llv P T g (fun _ => 16) c j))
    (hb2 : Below wr.heap.size wr w2) (hG0 : wr.heap.size ≤ G) (hG : G < w2.heap.size) (hr1 : Row1 w2 G 0 16 (Y j)) (hC1 : 16 ≤ C)
    (hown2 : w4.ownsRow B 136 3 (.slice (some ⟨g2, 0, none⟩) (j + 1) c2) (j + 1) (llv P T g (fun _ => 16) c j ++ lv3 (P j) (T j) G 16 C)) (hg2 : (w2.alloc o2).grownBy w4 v.ownBlock) (hat2 : v.ownBlock = some g2 ∨ g2 = w2.heap.size + 1) :
    AL B w4 (.slice (some ⟨g2, 0, none⟩) (j + 1) c2) (j + 1) P T (fun _ => 16) Y ∧ Below B wr w4 := by
  have hs1 : wr.heap.size ≤ w2.heap.size := hb2.size
  refine ⟨AL.step (w1 := w2) hj (fun i hi => ?_) (by omega) hG (fun e => by have := (hown.lt G e).2; omega) (fun i hi => by have := (hcc i hi).2.1; omega) hr1 hC1 hown2 hg2 hat2, ?_⟩
  · obtain ⟨h1, h2, h3, h4, h5⟩ := hcc i hi
    exact ⟨h1, by omega, h3, h4.block (hb2.block _ h2), h5⟩
  · have b2 : Below B wr w2 := hb2.mono (by omega)
    have b3 : Below B w2 (w2.alloc o2) := (Below.refl B w2).alloc (by omega) o2
    have b4 : Below B (w2.alloc o2) w4 := below_grown hg2 (by rw [World.size_alloc]; omega) (fun z e => (hown.lt z e).1)
    exact (b2.trans b3).trans b4
set_option maxHeartbeats 1600000 in
theorem piecesOf_any (idn : Int) (z : Nat → Int) (a : Option Addr) (cap : Nat) (w : World) (hcap : 48 ≤ cap) (h : BytesAt w a 48 z) :
    Calls Tryz.prog 200 #[.int .i64 idn, .slice a 48 cap] w fun e w' => ∃ v, e = .returned v ∧ Below w.heap.size w w' ∧ AL w.heap.size w' v 3 (pcP idn) pcT (fun _ => 16) (pcY z) := by
  obtain ⟨i2, hi, hz0, hz1, hz2⟩ := info_parts info114
  have HK : Hid (Tryz.prog.info? 136 = some i2 ∧ i2.zero = some (.agg #[.int .i64 0, .int .i64 0, .slice none 0 0]) ∧ i2.size = 3 ∧ i2.bytes = 40) := ⟨hi, hz0, hz1, hz2⟩
  have HA : Hid (BytesAt w a 48 z) := h
  clear hi hz0 hz1 hz2 h
  go_enter Tryz.func200, Tryz.ntmps200
  go_wp2_with fail
  refine (sheetOf_any z a cap w hcap HA.out).mono ?_
  rintro e w0 ⟨rfl, hb0⟩
  have HB0 : Hid (Below w.heap.size w w0) := hb0
  clear hb0
  go_wp2_with fail
  go_loopw [5, 6, 7, 10] (fun v _ _ i wr => ∃ j : Nat, j ≤ 3 ∧ i = .int .i64 j ∧ Hid (Below w.heap.size w wr) ∧ Hid (AL w.heap.size wr v j (pcP idn) pcT (fun _ => 16) (pcY z))) (fun _ _ _ i _ => 3 - (intOf i).toNat)
  case atStart => exact ⟨0, by omega, rfl, HB0, AL.nil _ _ _ _ _ _⟩
  case round =>
    obtain ⟨j, hj0, rfl, HB, HAL⟩ := hrel
    by_cases hlt : j < 3
    · obtain ⟨g, c, hown, hjj, hcc⟩ := HAL.out
      have HOW : Hid (wr.ownsRow w.heap.size 136 3 u5 j (llv (pcP idn) pcT g (fun _ => 16) c j)) := hown
      have HJ2 : Hid (∀ x y, x < j → y < j → g x = g y → x = y) := hjj
      have HCC : Hid (∀ i, i < j → w.heap.size ≤ g i ∧ g i < wr.heap.size ∧ u5.ownBlock ≠ some (g i) ∧ Row1 wr (g i) 0 16 (pcY z i) ∧ 16 ≤ c i) := hcc
      have HIX : Hid (∀ w, (Instr.index 241 (.agg (bvs z 48).toArray) (.int .i64 (j : Int))).run Tryz.prog w = .ok (.agg (bvs (pcY z j) 16).toArray) w) := fun w => run_index147 z j hlt w
      have hix := HIX.out
      have hlt' : (j : Int) < 3 := by omega
      clear hown hjj hcc
      go_wp2_with (first | (refine wpList_store_new (by rfl) 238 (.tmp 7) (.tmp 13) (by rfl) (zeros 16).toArray (bvs (pcY z j) 16).toArray (by rfl) (by rfl) (by rw [size144, bvs_size]) (by rw [bvs_size, zeros_size]) (all_oneCell_toArray (bvs_one _ _)) ?_) | (refine wpList_load_mid (by rfl) 238 (.tmp 7) (by rfl) wr.heap.size 0 (by rfl) (bvs (pcY z j) 16) _ (range_block (heap_alloc_last _ _)) Tryz.underlying238 rfl (by rw [size144, bvs_len]) ?_))
      refine (secBytes2 (pcY z j) _).mono ?_
      rintro e w2 ⟨G, C, rfl, hb2, hG0, hG1, hrow, hC⟩
      have hbb : Below wr.heap.size wr w2 := below_then (below_new _ _) hb2
      rw [World.size_alloc] at hG0
      have HG : Hid (wr.heap.size ≤ G ∧ G < w2.heap.size ∧ Row1 w2 G 0 16 (pcY z j) ∧ 16 ≤ C) := ⟨by omega, hG1, hrow, hC⟩
      have HBB : Hid (Below wr.heap.size wr w2) := hbb
      clear hb2 hG0 hG1 hrow hC hbb hix
      go_wp2_with (at_builtin; refine wpList_append_lies _ rfl (.tmp 14) (.tmp 20) 36 rfl w.heap.size 136 i2 (.agg #[.int .i64 0, .int .i64 0, .slice none 0 0]) 3 40 Tryz.underlying36 HK.out.1 HK.out.2.1 HK.out.2.2.1 HK.out.2.2.2 rfl (by decide) _ j (llv (pcP idn) pcT g (fun _ => 16) c j) rfl ((own_below HOW.out HBB.out).alloc _) ⟨w2.heap.size, 0, none⟩ 1 1 (lv3 idn (j : Int) G 16 C) rfl rfl ?d4 lv3_one (by decide) ?d5 ?d6 ?d7 _ rfl ?_)
      case d4 =>
        intro q u hu
        rw [Addr.add_mid]
        exact range_block (cs := lv3 idn (j : Int) G 16 C) (heap_alloc_last w2 (.cells (lv3 idn (j : Int) G 16 C).toArray 136)) q u hu
      case d5 => unfold maxLen; omega
      case d6 => omega
      case d7 =>
        have h1 := HBB.out.size
        have h2 := HB.out.size
        rw [World.size_alloc]; omega
      intro g2 c2 w4 hown2 hg2 hat2 hlt2
      obtain ⟨hal, hbl⟩ := roundD HB.out.size HJ2.out HCC.out HOW.out HBB.out HG.out.1 HG.out.2.1 HG.out.2.2.1 HG.out.2.2.2 hown2 hg2 hat2
      have HALN : Hid (AL w.heap.size w4 (.slice (some ⟨g2, 0, none⟩) (j + 1) c2) (j + 1) (pcP idn) pcT (fun _ => 16) (pcY z)) := hal
      have HBL : Hid (Below w.heap.size wr w4) := hbl
      clear hown2 hg2 hat2 hlt2 hal hbl
      go_wp2_with fail
      go_roundw
      case rel => exact ⟨j + 1, hlt, by go_num, HB.out.trans HBL.out, HALN.out⟩
      case measure => simp [intOf]; omega
    · have hkn : j = 3 := by omega
      subst hkn
      go_wp2_with fail
      go_ret
      exact ⟨_, rfl, HB.out, HAL.out⟩
/-! ### one list behind the other -/
def catF {α : Type} (f g : Nat → α) (m i : Nat) : α := if i < m then f i else g (i - m)
theorem cat_lt {α : Type} (f g : Nat → α) {m i : Nat} (h : i < m) : catF f g m i = f i := by simp [catF, h]
theorem cat_ge {α : Type} (f g : Nat → α) (m i : Nat) : catF f g m (m + i) = g i := by
  unfold catF
  rw [if_neg (by omega)]
  congr 1; omega
theorem llv_cat (P T P2 T2 : Nat → Int) (g L c g2 L2 c2 : Nat → Nat) (m : Nat) : ∀ k, llv (catF P P2 m) (catF T T2 m) (catF g g2 m) (catF L L2 m) (catF c c2 m) (m + k) = llv P T g L c m ++ llv P2 T2 g2 L2 c2 k
  | 0 => by
    rw [Nat.add_zero, llv, List.append_nil]
    exact llv_congr (fun i hi => cat_lt _ _ hi) (fun i hi => cat_lt _ _ hi) (fun i hi => cat_lt _ _ hi) (fun i hi => cat_lt _ _ hi) (fun i hi => cat_lt _ _ hi)
  | k + 1 => by
    rw [← Nat.add_assoc, llv, llv_cat P T P2 T2 g L c g2 L2 c2 m k, llv, List.append_assoc, cat_ge, cat_ge, cat_ge, cat_ge, cat_ge]
theorem AL.join {base base2 : Nat} {w w' : World} {v v2 : Value} {m k g' cap' : Nat} {P T P2 T2 : Nat → Int} {L L2 : Nat → Nat} {Z Z2 : Nat → Nat → Int} {g c g2 c2 : Nat → Nat} (hb : base ≤ base2)
    (hown : w.ownsRow base 136 3 v m (llv P T g L c m)) (hj : ∀ i j, i < m → j < m → g i = g j → i = j) (hc : ∀ i, i < m → base ≤ g i ∧ g i < base2 ∧ v.ownBlock ≠ some (g i) ∧ Row1 w (g i) 0 (L i) (Z i) ∧ L i ≤ c i) (hv : ∀ q, v.ownBlock = some q → q < base2) (hb2 : base2 ≤ w.heap.size)
    (hj2 : ∀ i j, i < k → j < k → g2 i = g2 j → i = j) (hc2 : ∀ i, i < k → base2 ≤ g2 i ∧ g2 i < w.heap.size ∧ Row1 w (g2 i) 0 (L2 i) (Z2 i) ∧ L2 i ≤ c2 i)
    (ho : w'.ownsRow base 136 3 (.slice (some ⟨g', 0, none⟩) (m + k) cap') (m + k) (llv P T g L c m ++ llv P2 T2 g2 L2 c2 k)) (hg : w.grownBy w' v.ownBlock) (hl : v.ownBlock = some g' ∨ g' = w.heap.size) :
    AL base w' (.slice (some ⟨g', 0, none⟩) (m + k) cap') (m + k) (catF P P2 m) (catF T T2 m) (catF L L2 m) (catF Z Z2 m) := by
  have keep : ∀ q, q < w.heap.size → v.ownBlock ≠ some q → w'.heap[q]? = w.heap[q]? := fun q hq hv => hg.block q hq (fun e => hv e.symm)
  have far : ∀ q, q < w.heap.size → v.ownBlock ≠ some q → (Value.slice (some ⟨g', 0, none⟩) (m + k) cap').ownBlock ≠ some q := fun q hq hv e => by
    simp only [Value.ownBlock, Option.some.injEq] at e
    rcases hl with hl | hl
    · exact hv (by rw [hl, e])
    · omega
  have hsz := hg.size
  refine ⟨catF g g2 m, catF c c2 m, by rw [llv_cat]; exact ho, fun i j hi hj' e => ?_, fun i hi => ?_⟩
  · by_cases c1 : i < m <;> by_cases d1 : j < m
    · rw [cat_lt _ _ c1, cat_lt _ _ d1] at e; exact hj i j c1 d1 e
    · obtain ⟨y, rfl⟩ : ∃ y, j = m + y := ⟨j - m, by omega⟩
      rw [cat_lt _ _ c1, cat_ge] at e
      have h1 := (hc i c1).2.1
      have h2 := (hc2 y (by omega)).1
      omega
    · obtain ⟨x, rfl⟩ : ∃ x, i = m + x := ⟨i - m, by omega⟩
      rw [cat_ge, cat_lt _ _ d1] at e
      have h1 := (hc j d1).2.1
      have h2 := (hc2 x (by omega)).1
      omega
    · obtain ⟨x, rfl⟩ : ∃ x, i = m + x := ⟨i - m, by omega⟩
      obtain ⟨y, rfl⟩ : ∃ y, j = m + y := ⟨j - m, by omega⟩
      rw [cat_ge, cat_ge] at e
      have := hj2 x y (by omega) (by omega) e
      omega
  · by_cases c1 : i < m
    · rw [cat_lt _ _ c1, cat_lt _ _ c1, cat_lt _ _ c1, cat_lt _ _ c1]
      obtain ⟨h1, h2, h3, h4, h5⟩ := hc i c1
      exact ⟨h1, by omega, far _ (by omega) h3, h4.block (keep _ (by omega) h3), h5⟩
    · obtain ⟨x, rfl⟩ : ∃ x, i = m + x := ⟨i - m, by omega⟩
      rw [cat_ge, cat_ge, cat_ge, cat_ge]
      obtain ⟨h1, h2, h4, h5⟩ := hc2 x (by omega)
      have h3 : v.ownBlock ≠ some (g2 x) := fun e => by have := hv _ e; omega
      exact ⟨by omega, by omega, far _ h2 h3, h4.block (keep _ h2 h3), h5⟩
/-- What PlaceDisk answers. -/
def plD (D : Dk) (idn : Int) (z : Nat → Int) : Dk := ⟨D.n, fun _ => 48, D.Z, D.m + 3, catF D.P (pcP idn) D.m, catF D.T pcT D.m, fun _ => 16, catF D.Y (pcY z) D.m⟩
def plC (D : Dk) (idn : Int) (k : Nat) : Int :=
  if df D = 0 then (if inB idn 0 ((D.n : Int) - 1) = true then (if k = 48 then (if 57 < D.m then 2 else 0) else 1) else 3) else df D
theorem cat_const {α : Type} (x : α) (m : Nat) : catF (fun _ => x) (fun _ => x) m = fun _ => x := by funext i; simp [catF]
set_option maxHeartbeats 1600000 in
theorem implPlace_any (D : Dk) (idn : Int) (k : Nat) (z : Nat → Int) (a a' a3 : Option Addr) (cap cap' cap3 : Nat) (w : World) (hs : Small D) (hk : k ≤ 1048576) (hcap : k ≤ cap3) (h : DiskAt w a a' D) (h3 : BytesAt w a3 k z) :
    Calls Tryz.prog 164 #[.agg #[.slice a D.n cap, .slice a' D.m cap'], .int .i64 idn, .slice a3 k cap3] w (DRes (plC D idn k) (plD D idn z) w) := by
  have hb0 : ∀ o1 o2, Below w.heap.size w ((w.alloc o1).alloc o2) := fun o1 o2 => ((Below.refl _ _).alloc (Nat.le_refl _) _).alloc (by simp) _
  have HS : Hid (Small D) := hs
  have HA : Hid (DiskAt w a a' D) := h
  have HY : Hid (BytesAt w a3 k z) := h3
  have hn := hs.n
  have hm := hs.m
  clear hs h h3
  by_cases hf : df D = 0
  · have HG : Hid (GoodD D) := goodD_of hf
    have hpl : plC D idn k = (if inB idn 0 ((D.n : Int) - 1) = true then (if k = 48 then (if 57 < D.m then 2 else 0) else 1) else 3) := by unfold plC; rw [if_pos hf]
    generalize hc : plC D idn k = c at *
    have HC : Hid (c = (if inB idn 0 ((D.n : Int) - 1) = true then (if k = 48 then (if 57 < D.m then 2 else 0) else 1) else 3)) := hpl
    clear hpl hc
    go_enter Tryz.func164, Tryz.ntmps164
    go_wp2_with fail
    refine (implDf_any D a a' cap cap' _ HS.out (HA.out.below (hb0 _ _))).mono ?_
    rintro e w1 ⟨rfl, hb1⟩
    rw [hf]
    obtain ⟨hcc, hff⟩ := bcell hb1
    have hz : w.heap.size + 1 < w1.heap.size := by have := hb1.size; simp at this; omega
    have q0 : w1.cell? ⟨w.heap.size, 0, none⟩ = some (.slice a D.n cap) := by rw [hcc _ _ (by simp <;> omega)]; simp [go_sem]
    have q1 : w1.cell? ⟨w.heap.size, 1, none⟩ = some (.slice a' D.m cap') := by rw [hcc _ _ (by simp <;> omega)]; simp [go_sem]
    have r0 : w1.cell? ⟨w.heap.size + 1, 0, none⟩ = some (.int .i64 0) := by rw [hcc _ _ (by simp <;> omega)]; simp [go_sem]
    have r1 : w1.cell? ⟨w.heap.size + 1, 1, none⟩ = some (.slice none 0 0) := by rw [hcc _ _ (by simp <;> omega)]; simp [go_sem]
    have r2 : w1.cell? ⟨w.heap.size + 1, 2, none⟩ = some (.slice none 0 0) := by rw [hcc _ _ (by simp <;> omega)]; simp [go_sem]
    have fz : ∀ i, w1.frozen? ⟨w.heap.size + 1, i, none⟩ = false := fun i => by rw [hff _ _ (by simp <;> omega)]; simp [go_sem]
    have HB1 : Hid (Below w.heap.size w w1) := below_then (hb0 _ _) hb1
    clear hcc hff hb1 hb0
    by_cases hin : inB idn 0 ((D.n : Int) - 1) = true
    · by_cases h48 : k = 48
      · subst h48
        by_cases h57 : 57 < D.m
        · have HC2 : Hid (c = 2) := by have h := HC.out; rw [if_pos hin, if_pos rfl, if_pos h57] at h; exact h
          clear HC
          go_wp2_with fail
          refine (isPlace_any idn D.n _ (by omega)).mono ?_
          rintro e w' ⟨rfl, rfl⟩
          go_wp2_with fail
          rw [HC2.out]
          refine bodyPost_ret (v := .agg #[.int .i64 2, .slice none 0 0, .slice none 0 0]) (by simp [results, Tryz.results164, go_sem, *]) rfl ?_
          refine dres_bad ?_ (by decide)
          repeat (first | exact HB1.out | refine Below.setCell ?_ (by first | omega | (simp <;> omega)) _)
        · have HC2 : Hid (c = 0) := by have h := HC.out; rw [if_pos hin, if_pos rfl, if_neg h57] at h; exact h
          clear HC
          go_wp2_with fail
          refine (isPlace_any idn D.n _ (by omega)).mono ?_
          rintro e w' ⟨rfl, hw'⟩
          rw [hw']
          clear hw' w'
          go_wp2_with fail
          refine (copyLoose_any D.m D.P D.T D.M D.Y a' cap' w1 HG.out.m HG.out.M (HA.out.2.below HB1.out)).mono ?_
          rintro e w2 ⟨v1, rfl, hb2, hal1⟩
          have HB2 : Hid (Below w1.heap.size w1 w2) := hb2
          have HAL1 : Hid (AL w1.heap.size w2 v1 D.m D.P D.T (fun _ => 16) D.Y) := hal1
          clear hb2 hal1
          go_wp2_with fail
          refine (piecesOf_any idn z a3 cap3 w2 hcap (HY.out.below (below_then HB1.out HB2.out))).mono ?_
          rintro e w3 ⟨v2, rfl, hb3, hal2⟩
          obtain ⟨g, c0, hown, hjj, hcg⟩ := HAL1.out
          obtain ⟨g2, c2, hown2, hjj2, hcg2⟩ := hal2
          obtain ⟨b2, cb2, rfl, hb20, hb21⟩ := hown2.form (by omega)
          have hv1 : ∀ q, v1.ownBlock = some q → w1.heap.size ≤ q ∧ q < w2.heap.size := fun q hq => hown.lt q hq
          have hsz2 := HB2.out.size
          have hsz3 := hb3.size
          have HOW1 : Hid (w3.ownsRow w1.heap.size 136 3 v1 D.m (llv D.P D.T g (fun _ => 16) c0 D.m)) := own_below hown hb3
          have HNEW : Hid (∀ j u, (llv (pcP idn) pcT g2 (fun _ => 16) c2 3)[j]? = some u → w3.cell? ((⟨b2, 0, none⟩ : Addr).add j) = some u) := hown2.cells rfl
          have HJN : Hid (∀ (w4 : World) (g' cap' : Nat), w4.ownsRow w1.heap.size 136 3 (.slice (some ⟨g', 0, none⟩) (D.m + 3) cap') (D.m + 3) (llv D.P D.T g (fun _ => 16) c0 D.m ++ llv (pcP idn) pcT g2 (fun _ => 16) c2 3) → w3.grownBy w4 v1.ownBlock → (v1.ownBlock = some g' ∨ g' = w3.heap.size) → AL w1.heap.size w4 (.slice (some ⟨g', 0, none⟩) (D.m + 3) cap') (D.m + 3) (catF D.P (pcP idn) D.m) (catF D.T pcT D.m) (fun _ => 16) (catF D.Y (pcY z) D.m)) := fun w4 g' cap' k1 k2 k3 => by
            have h := AL.join (v2 := v1) (base2 := w2.heap.size) hsz2 (own_below hown hb3) hjj (fun i hi => by
              obtain ⟨x1, x2, x3, x4, x5⟩ := hcg i hi
              exact ⟨x1, x2, x3, x4.block (hb3.block _ x2), x5⟩) (fun q hq => (hv1 q hq).2) hsz3 hjj2 (fun i hi => by
              obtain ⟨x1, x2, x3, x4, x5⟩ := hcg2 i hi
              exact ⟨x1, x2, x4, x5⟩) k1 k2 k3
            rw [cat_const] at h
            exact h
          have HV1 : Hid (∀ q, v1.ownBlock = some q → w1.heap.size ≤ q) := fun q hq => (hv1 q hq).1
          have HB3 : Hid (Below w1.heap.size w1 w3) := below_then HB2.out hb3
          have HL2 : Hid (∀ u ∈ llv (pcP idn) pcT g2 (fun _ => 16) c2 3, u.oneCell' = true) := fun u hu => by
            simp [llv, lv3] at hu
            rcases hu with rfl | rfl | rfl | rfl | rfl | rfl | rfl | rfl | rfl <;> rfl
          clear hb3 hown hjj hcg hown2 hjj2 hcg2 hv1 hb20 hb21
          obtain ⟨i2, hi, hz0, hz1, hz2⟩ := info_parts info114
          have HK : Hid (Tryz.prog.info? 136 = some i2 ∧ i2.zero = some (.agg #[.int .i64 0, .int .i64 0, .slice none 0 0]) ∧ i2.size = 3 ∧ i2.bytes = 40) := ⟨hi, hz0, hz1, hz2⟩
          clear hi hz0 hz1 hz2
          go_wp2_with (at_builtin; refine wpList_append_lies _ rfl (.tmp 34) (.tmp 37) 36 rfl w1.heap.size 136 i2 (.agg #[.int .i64 0, .int .i64 0, .slice none 0 0]) 3 40 Tryz.underlying36 HK.out.1 HK.out.2.1 HK.out.2.2.1 HK.out.2.2.2 rfl (by decide) v1 D.m (llv D.P D.T g (fun _ => 16) c0 D.m) rfl HOW1.out ⟨b2, 0, none⟩ 3 cb2 (llv (pcP idn) pcT g2 (fun _ => 16) c2 3) rfl (llv_len _ _ _ _ _ _) HNEW.out HL2.out (by decide) ?d5 ?d6 ?d7 _ rfl ?_)
          case d5 => unfold maxLen; omega
          case d6 => omega
          case d7 => omega
          intro g' cq w4 hown4 hg4 hat4 hlt4
          have hal4 := HJN.out w4 g' cq hown4 hg4 hat4
          have hb4 : Below w1.heap.size w1 w4 := HB3.out.trans (below_grown hg4 (by omega) HV1.out)
          obtain ⟨al, cl, e4, -, hol⟩ := hal4.own
          simp only [Value.slice.injEq] at e4
          obtain ⟨rfl, -, rfl⟩ := e4
          have HOL : Hid (OwnL w4 w1.heap.size w4.heap.size (some ⟨g', 0, none⟩) (D.m + 3) (catF D.P (pcP idn) D.m) (catF D.T pcT D.m) (fun _ => 16) (catF D.Y (pcY z) D.m)) := hol
          have p0 : w4.cell? ⟨w.heap.size, 0, none⟩ = some (.slice a D.n cap) := (hb4.cell (p := ⟨w.heap.size, 0, none⟩) (by show w.heap.size < _; omega)).trans q0
          have HB4 : Hid (Below w1.heap.size w1 w4) := hb4
          clear hown4 hg4 hat4 hlt4 hal4 hol hb4 HJN HNEW HOW1 HL2 HV1 HAL1
          go_wp2_with fail
          refine (sheetsOf_any D.n D.L D.Z a cap w4 HG.out.n8 HG.out.L (HA.out.1.below (HB1.out.trans (HB4.out.mono HB1.out.size)))).mono ?_
          rintro e w5 ⟨v5, rfl, hb5, ho5⟩
          obtain ⟨b5, c5, rfl, hb50, hb51⟩ := ho5.form HG.out.n1
          have HRG : Hid (∀ i, i < D.n → w5.rangeAt b5 (i * 48) (bvs (D.Z i) 48)) := shl_range ho5
          have HB5 : Hid (Below w1.heap.size w1 w5) := HB4.out.trans (hb5.mono HB4.out.size)
          have HOL5 : Hid (OwnL w5 w1.heap.size w4.heap.size (some ⟨g', 0, none⟩) (D.m + 3) (catF D.P (pcP idn) D.m) (catF D.T pcT D.m) (fun _ => 16) (catF D.Y (pcY z) D.m)) := HOL.out.below hb5
          have hs5 := hb5.size
          clear ho5 hb5 hb50 HOL
          go_wp2_with fail
          refine (pagesOf_any D.n D.Z b5 c5 w5 HG.out.n8 hb51 HRG.out).mono ?_
          rintro e w6 ⟨v6, rfl, hb6, hap6⟩
          obtain ⟨ap, cp, rfl, -, hop⟩ := hap6.own
          have hb66 : Below w1.heap.size w1 w6 := HB5.out.trans (hb6.mono HB5.out.size)
          have HOL6 : Hid (OwnL w6 w1.heap.size w4.heap.size (some ⟨g', 0, none⟩) (D.m + 3) (catF D.P (pcP idn) D.m) (catF D.T pcT D.m) (fun _ => 16) (catF D.Y (pcY z) D.m)) := HOL5.out.below hb6
          have HOP6 : Hid (OwnP w6 w5.heap.size w6.heap.size ap D.n (fun _ => 48) D.Z) := hop
          have t0 : w6.cell? ⟨w.heap.size + 1, 0, none⟩ = some (.int .i64 0) := (hb66.cell (p := ⟨w.heap.size + 1, 0, none⟩) (by show w.heap.size + 1 < _; omega)).trans r0
          have t1 : w6.cell? ⟨w.heap.size + 1, 1, none⟩ = some (.slice none 0 0) := (hb66.cell (p := ⟨w.heap.size + 1, 1, none⟩) (by show w.heap.size + 1 < _; omega)).trans r1
          have t2 : w6.cell? ⟨w.heap.size + 1, 2, none⟩ = some (.slice none 0 0) := (hb66.cell (p := ⟨w.heap.size + 1, 2, none⟩) (by show w.heap.size + 1 < _; omega)).trans r2
          have ff : ∀ i, w6.frozen? ⟨w.heap.size + 1, i, none⟩ = false := fun i => (hb66.frozen (p := ⟨w.heap.size + 1, i, none⟩) (by show w.heap.size + 1 < _; omega)).trans (fz i)
          have HB6 : Hid (Below w.heap.size w w6) := HB1.out.trans (hb66.mono HB1.out.size)
          have hs6 := hb6.size
          have hs1 := HB1.out.size
          clear hap6 hop hb6 hb66 HRG HOL5 p0 q0 q1 r0 r1 r2 fz
          go_wp2_with fail
          rw [HC2.out]
          refine bodyPost_ret (v := .agg #[.int .i64 0, .slice ap D.n cp, .slice (some ⟨g', 0, none⟩) (D.m + 3) cq]) (by simp [results, Tryz.results164, go_sem, *]) rfl ?_
          refine ⟨ap, some ⟨g', 0, none⟩, cp, cq, rfl, ?_, ?_⟩
          · repeat (first | exact HB6.out | refine Below.setCell ?_ (by first | omega | (simp <;> omega)) _)
          · have hw : ∀ w7, Writes (w.heap.size + 1) (w.heap.size + 2) w6 w7 → w7.heap.size = w6.heap.size → OwnD w7 w.heap.size w7.heap.size ap (some ⟨g', 0, none⟩) (plD D idn z) := fun w7 h e => by
              have h4 := HB4.out.size
              exact ⟨Nat.le_refl _, w5.heap.size, w6.heap.size, w1.heap.size, w4.heap.size, by omega, by omega, by omega, by omega, .inr (by omega), HOP6.out.writes h (.inr (by omega)), HOL6.out.writes h (.inr (by omega))⟩
            refine hw _ ?_ (by simp [World.setCell])
            repeat (first | exact Writes.refl _ _ _ | refine Writes.setCell ?_ (by first | omega | (simp <;> omega)) (by first | omega | (simp <;> omega)) _)
      · have HC2 : Hid (c = 1) := by have h := HC.out; rw [if_pos hin, if_neg h48] at h; exact h
        clear HC
        go_wp2_with fail
        refine (isPlace_any idn D.n _ (by omega)).mono ?_
        rintro e w' ⟨rfl, rfl⟩
        go_wp2_with fail
        rw [HC2.out]
        refine bodyPost_ret (v := .agg #[.int .i64 1, .slice none 0 0, .slice none 0 0]) (by simp [results, Tryz.results164, go_sem, *]) rfl ?_
        refine dres_bad ?_ (by decide)
        repeat (first | exact HB1.out | refine Below.setCell ?_ (by first | omega | (simp <;> omega)) _)
    · have hin' : inB idn 0 ((D.n : Int) - 1) = false := by simpa using hin
      have HC2 : Hid (c = 3) := by have h := HC.out; rw [if_neg hin] at h; exact h
      clear HC hin
      go_wp2_with fail
      refine (isPlace_any idn D.n _ (by omega)).mono ?_
      rintro e w' ⟨rfl, rfl⟩
      go_wp2_with fail
      rw [HC2.out]
      refine bodyPost_ret (v := .agg #[.int .i64 3, .slice none 0 0, .slice none 0 0]) (by simp [results, Tryz.results164, go_sem, *]) rfl ?_
      refine dres_bad ?_ (by decide)
      repeat (first | exact HB1.out | refine Below.setCell ?_ (by first | omega | (simp <;> omega)) _)
  · have hpl : plC D idn k = df D := by unfold plC; rw [if_neg hf]
    rw [hpl]
    have hd : (df D != 0) = true := by simpa using hf
    have HNZ : Hid (df D ≠ 0) := hf
    clear hpl
    go_enter Tryz.func164, Tryz.ntmps164
    go_wp2_with fail
    refine (implDf_any D a a' cap cap' _ HS.out (HA.out.below (hb0 _ _))).mono ?_
    rintro e w1 ⟨rfl, hb1⟩
    obtain ⟨hcc, hff⟩ := bcell hb1
    generalize df D = c at *
    clear hf
    go_wp2_with fail
    refine bodyPost_ret (v := .agg #[.int .i64 c, .slice none 0 0, .slice none 0 0]) (by simp [results, Tryz.results164, go_sem, hcc]) rfl ?_
    refine dres_bad ?_ HNZ.out
    repeat (first | exact below_then (hb0 _ _) hb1 | refine Below.setCell ?_ (by first | omega | (simp <;> omega)) _)
end Go.Proofs.YtaokclhcmgbgnaaGreat
