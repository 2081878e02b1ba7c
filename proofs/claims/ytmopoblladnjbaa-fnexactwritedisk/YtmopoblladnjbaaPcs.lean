/- impl.piecesOf; two lists of loose writes, one behind the other. -/
import Derived.Test.YtmopoblladnjbaaCpl
namespace Go.Proofs.Ytmopoblladnjbaa
open Go.RowKit Go.Deep
set_option linter.unusedVariables false
set_option maxRecDepth 20000

/-- The three pieces of a page. -/
def pcP (idn : Int) (_ : Nat) : Int := idn
def pcT (i : Nat) : Int := i
def pcY (z : Nat → Int) (i q : Nat) : Int := z (16 * i + q)
theorem roundD {wr w2 w4 : World} {B j G C g2 c2 : Nat} {v : Value} {P T : Nat → Int} {Y : Nat → Nat → Int} {g c : Nat → Nat} {o2 : Obj} (hB : B ≤ wr.heap.size) (hj : ∀ x y, x < j → y < j → g x = g y → x = y)
    (hcc : ∀ i, i < j → B ≤ g i ∧ g i < wr.heap.size ∧ v.ownBlock ≠ some (g i) ∧ Row1 wr (g i) 0 16 (Y i) ∧ 16 ≤ c i) (hown : wr.ownsRow B 192 3 v j (llv P T g (fun _ => 16) c j))
    (hb2 : Below wr.heap.size wr w2) (hG0 : wr.heap.size ≤ G) (hG : G < w2.heap.size) (hr1 : Row1 w2 G 0 16 (Y j)) (hC1 : 16 ≤ C)
    (hown2 : w4.ownsRow B 192 3 (.slice (some ⟨g2, 0, none⟩) (j + 1) c2) (j + 1) (llv P T g (fun _ => 16) c j ++ lv3 (P j) (T j) G 16 C)) (hg2 : (w2.alloc o2).grownBy w4 v.ownBlock) (hat2 : v.ownBlock = some g2 ∨ g2 = w2.heap.size + 1) :
    AL B w4 (.slice (some ⟨g2, 0, none⟩) (j + 1) c2) (j + 1) P T (fun _ => 16) Y ∧ Below B wr w4 := by
  have hs1 : wr.heap.size ≤ w2.heap.size := hb2.size
  refine ⟨AL.step (w1 := w2) hj (fun i hi => ?_) (by omega) hG (fun e => by have := (hown.lt G e).2; omega) (fun i hi => by have := (hcc i hi).2.1; omega) hr1 hC1 hown2 hg2 hat2, ?_⟩
  · obtain ⟨h1, h2, h3, h4, h5⟩ := hcc i hi
    exact ⟨h1, by omega, h3, h4.block (hb2.block _ h2), h5⟩
  · have b2 : Below B wr w2 := hb2.mono (by omega)
    have b3 : Below B w2 (w2.alloc o2) := (Below.refl B w2).alloc (by omega) o2
    have b4 : Below B (w2.alloc o2) w4 := below_grown hg2 (by rw [World.size_alloc]; omega) (fun z e => (hown.lt z e).1)
    exact (b2.trans b3).trans b4
set_option maxHeartbeats 1600000 in
theorem piecesOf_any (idn : Int) (z : Nat → Int) (a : Option Addr) (cap : Nat) (w : World) (hcap : 48 ≤ cap) (h : BytesAt w a 48 z) :
    Calls Try.prog 188 #[.int .i64 idn, .slice a 48 cap] w fun e w' => ∃ v, e = .returned v ∧ Below w.heap.size w w' ∧ AL w.heap.size w' v 3 (pcP idn) pcT (fun _ => 16) (pcY z) := by
  obtain ⟨i2, hi, hz0, hz1, hz2⟩ := info_parts info114
  have HK : Hid (Try.prog.info? 192 = some i2 ∧ i2.zero = some (.agg #[.int .i64 0, .int .i64 0, .slice none 0 0]) ∧ i2.size = 3 ∧ i2.bytes = 40) := ⟨hi, hz0, hz1, hz2⟩
  have HA : Hid (BytesAt w a 48 z) := h
  clear hi hz0 hz1 hz2 h
  go_enter Try.func188, Try.ntmps188
  go_wp2_with fail
  refine (sheetOf_any z a cap w hcap HA.out).mono ?_
  rintro e w0 ⟨rfl, hb0⟩
  have HB0 : Hid (Below w.heap.size w w0) := hb0
  clear hb0
  go_wp2_with fail
  go_loopw [5, 6, 7, 10] (fun v _ _ i wr => ∃ j : Nat, j ≤ 3 ∧ i = .int .i64 j ∧ Hid (Below w.heap.size w wr) ∧ Hid (AL w.heap.size wr v j (pcP idn) pcT (fun _ => 16) (pcY z))) (fun _ _ _ i _ => 3 - (intOf i).toNat)
  case atStart => exact ⟨0, by omega, rfl, HB0, AL.nil _ _ _ _ _ _⟩
  case round =>
    obtain ⟨j, hj0, rfl, HB, HAL⟩ := hrel
    by_cases hlt : j < 3
    · obtain ⟨g, c, hown, hjj, hcc⟩ := HAL.out
      have HOW : Hid (wr.ownsRow w.heap.size 192 3 u5 j (llv (pcP idn) pcT g (fun _ => 16) c j)) := hown
      have HJ2 : Hid (∀ x y, x < j → y < j → g x = g y → x = y) := hjj
      have HCC : Hid (∀ i, i < j → w.heap.size ≤ g i ∧ g i < wr.heap.size ∧ u5.ownBlock ≠ some (g i) ∧ Row1 wr (g i) 0 16 (pcY z i) ∧ 16 ≤ c i) := hcc
      have HIX : Hid (∀ w, (Instr.index 207 (.agg (bvs z 48).toArray) (.int .i64 (j : Int))).run Try.prog w = .ok (.agg (bvs (pcY z j) 16).toArray) w) := fun w => run_index147 z j hlt w
      have hix := HIX.out
      have hlt' : (j : Int) < 3 := by omega
      clear hown hjj hcc
      go_wp2_with (first | (refine wpList_store_new (by rfl) 204 (.tmp 7) (.tmp 13) (by rfl) (zeros 16).toArray (bvs (pcY z j) 16).toArray (by rfl) (by rfl) (by rw [size144, bvs_size]) (by rw [bvs_size, zeros_size]) (all_oneCell_toArray (bvs_one _ _)) ?_) | (refine wpList_load_mid (by rfl) 204 (.tmp 7) (by rfl) wr.heap.size 0 (by rfl) (bvs (pcY z j) 16) _ (range_block (heap_alloc_last _ _)) Try.underlying204 rfl (by rw [size144, bvs_len]) ?_))
      refine (secBytes2 (pcY z j) _).mono ?_
      rintro e w2 ⟨G, C, rfl, hb2, hG0, hG1, hrow, hC⟩
      have hbb : Below wr.heap.size wr w2 := below_then (below_new _ _) hb2
      rw [World.size_alloc] at hG0
      have HG : Hid (wr.heap.size ≤ G ∧ G < w2.heap.size ∧ Row1 w2 G 0 16 (pcY z j) ∧ 16 ≤ C) := ⟨by omega, hG1, hrow, hC⟩
      have HBB : Hid (Below wr.heap.size wr w2) := hbb
      clear hb2 hG0 hG1 hrow hC hbb hix
      go_wp2_with (at_builtin; refine wpList_append_lies _ rfl (.tmp 14) (.tmp 20) 62 rfl w.heap.size 192 i2 (.agg #[.int .i64 0, .int .i64 0, .slice none 0 0]) 3 40 Try.underlying62 HK.out.1 HK.out.2.1 HK.out.2.2.1 HK.out.2.2.2 rfl (by decide) _ j (llv (pcP idn) pcT g (fun _ => 16) c j) rfl ((own_below HOW.out HBB.out).alloc _) ⟨w2.heap.size, 0, none⟩ 1 1 (lv3 idn (j : Int) G 16 C) rfl rfl ?d4 lv3_one (by decide) ?d5 ?d6 ?d7 _ rfl ?_)
      case d4 =>
        intro q u hu
        rw [Addr.add_mid]
        exact range_block (cs := lv3 idn (j : Int) G 16 C) (heap_alloc_last w2 (.cells (lv3 idn (j : Int) G 16 C).toArray 192)) q u hu
      case d5 => unfold maxLen; omega
      case d6 => omega
      case d7 =>
        have h1 := HBB.out.size
        have h2 := HB.out.size
        rw [World.size_alloc]; omega
      intro g2 c2 w4 hown2 hg2 hat2 hlt2
      obtain ⟨hal, hbl⟩ := roundD HB.out.size HJ2.out HCC.out HOW.out HBB.out HG.out.1 HG.out.2.1 HG.out.2.2.1 HG.out.2.2.2 hown2 hg2 hat2
      have HALN : Hid (AL w.heap.size w4 (.slice (some ⟨g2, 0, none⟩) (j + 1) c2) (j + 1) (pcP idn) pcT (fun _ => 16) (pcY z)) := hal
      have HBL : Hid (Below w.heap.size wr w4) := hbl
      clear hown2 hg2 hat2 hlt2 hal hbl
      go_wp2_with fail
      go_roundw
      case rel => exact ⟨j + 1, hlt, by go_num, HB.out.trans HBL.out, HALN.out⟩
      case measure => simp [intOf]; omega
    · have hkn : j = 3 := by omega
      subst hkn
      go_wp2_with fail
      go_ret
      exact ⟨_, rfl, HB.out, HAL.out⟩
/-! ### one list behind the other -/
def cat {α : Type} (f g : Nat → α) (m i : Nat) : α := if i < m then f i else g (i - m)
theorem cat_lt {α : Type} (f g : Nat → α) {m i : Nat} (h : i < m) : cat f g m i = f i := by simp [cat, h]
theorem cat_ge {α : Type} (f g : Nat → α) (m i : Nat) : cat f g m (m + i) = g i := by
  unfold cat
  rw [if_neg (by omega)]
  congr 1; omega
theorem llv_cat (P T P2 T2 : Nat → Int) (g L c g2 L2 c2 : Nat → Nat) (m : Nat) : ∀ k, llv (cat P P2 m) (cat T T2 m) (cat g g2 m) (cat L L2 m) (cat c c2 m) (m + k) = llv P T g L c m ++ llv P2 T2 g2 L2 c2 k
  | 0 => by
    rw [Nat.add_zero, llv, List.append_nil]
    exact llv_congr (fun i hi => cat_lt _ _ hi) (fun i hi => cat_lt _ _ hi) (fun i hi => cat_lt _ _ hi) (fun i hi => cat_lt _ _ hi) (fun i hi => cat_lt _ _ hi)
  | k + 1 => by
    rw [← Nat.add_assoc, llv, llv_cat P T P2 T2 g L c g2 L2 c2 m k, llv, List.append_assoc, cat_ge, cat_ge, cat_ge, cat_ge, cat_ge]
theorem AL.join {base base2 : Nat} {w w' : World} {v v2 : Value} {m k g' cap' : Nat} {P T P2 T2 : Nat → Int} {L L2 : Nat → Nat} {Z Z2 : Nat → Nat → Int} {g c g2 c2 : Nat → Nat} (hb : base ≤ base2)
    (hown : w.ownsRow base 192 3 v m (llv P T g L c m)) (hj : ∀ i j, i < m → j < m → g i = g j → i = j) (hc : ∀ i, i < m → base ≤ g i ∧ g i < base2 ∧ v.ownBlock ≠ some (g i) ∧ Row1 w (g i) 0 (L i) (Z i) ∧ L i ≤ c i) (hv : ∀ q, v.ownBlock = some q → q < base2) (hb2 : base2 ≤ w.heap.size)
    (hj2 : ∀ i j, i < k → j < k → g2 i = g2 j → i = j) (hc2 : ∀ i, i < k → base2 ≤ g2 i ∧ g2 i < w.heap.size ∧ Row1 w (g2 i) 0 (L2 i) (Z2 i) ∧ L2 i ≤ c2 i)
    (ho : w'.ownsRow base 192 3 (.slice (some ⟨g', 0, none⟩) (m + k) cap') (m + k) (llv P T g L c m ++ llv P2 T2 g2 L2 c2 k)) (hg : w.grownBy w' v.ownBlock) (hl : v.ownBlock = some g' ∨ g' = w.heap.size) :
    AL base w' (.slice (some ⟨g', 0, none⟩) (m + k) cap') (m + k) (cat P P2 m) (cat T T2 m) (cat L L2 m) (cat Z Z2 m) := by
  have keep : ∀ q, q < w.heap.size → v.ownBlock ≠ some q → w'.heap[q]? = w.heap[q]? := fun q hq hv => hg.block q hq (fun e => hv e.symm)
  have far : ∀ q, q < w.heap.size → v.ownBlock ≠ some q → (Value.slice (some ⟨g', 0, none⟩) (m + k) cap').ownBlock ≠ some q := fun q hq hv e => by
    simp only [Value.ownBlock, Option.some.injEq] at e
    rcases hl with hl | hl
    · exact hv (by rw [hl, e])
    · omega
  have hsz := hg.size
  refine ⟨cat g g2 m, cat c c2 m, by rw [llv_cat]; exact ho, fun i j hi hj' e => ?_, fun i hi => ?_⟩
  · by_cases c1 : i < m <;> by_cases d1 : j < m
    · rw [cat_lt _ _ c1, cat_lt _ _ d1] at e; exact hj i j c1 d1 e
    · obtain ⟨y, rfl⟩ : ∃ y, j = m + y := ⟨j - m, by omega⟩
      rw [cat_lt _ _ c1, cat_ge] at e
      have h1 := (hc i c1).2.1
      have h2 := (hc2 y (by omega)).1
      omega
    · obtain ⟨x, rfl⟩ : ∃ x, i = m + x := ⟨i - m, by omega⟩
      rw [cat_ge, cat_lt _ _ d1] at e
      have h1 := (hc j d1).2.1
      have h2 := (hc2 x (by omega)).1
      omega
    · obtain ⟨x, rfl⟩ : ∃ x, i = m + x := ⟨i - m, by omega⟩
      obtain ⟨y, rfl⟩ : ∃ y, j = m + y := ⟨j - m, by omega⟩
      rw [cat_ge, cat_ge] at e
      have := hj2 x y (by omega) (by omega) e
      omega
  · by_cases c1 : i < m
    · rw [cat_lt _ _ c1, cat_lt _ _ c1, cat_lt _ _ c1, cat_lt _ _ c1]
      obtain ⟨h1, h2, h3, h4, h5⟩ := hc i c1
      exact ⟨h1, by omega, far _ (by omega) h3, h4.block (keep _ (by omega) h3), h5⟩
    · obtain ⟨x, rfl⟩ : ∃ x, i = m + x := ⟨i - m, by omega⟩
      rw [cat_ge, cat_ge, cat_ge, cat_ge]
      obtain ⟨h1, h2, h4, h5⟩ := hc2 x (by omega)
      have h3 : v.ownBlock ≠ some (g2 x) := fun e => by have := hv _ e; omega
      exact ⟨by omega, by omega, far _ h2 h3, h4.block (keep _ h2 h3), h5⟩
end Go.Proofs.Ytmopoblladnjbaa
