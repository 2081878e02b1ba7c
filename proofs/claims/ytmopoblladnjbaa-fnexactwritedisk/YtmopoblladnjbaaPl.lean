/- impl.PlaceDisk: an answer that is a disk. -/
import Derived.Test.YtmopoblladnjbaaPcs
import Derived.Test.YtmopoblladnjbaaDg
namespace Go.Proofs.Ytmopoblladnjbaa
open Go.RowKit Go.Deep
set_option linter.unusedVariables false
set_option maxRecDepth 20000

/-- A disk without a fault. -/
structure GoodD (D : Dk) : Prop where
  n1 : 1 ≤ D.n
  n8 : D.n ≤ 8
  L : ∀ i, i < D.n → D.L i = 48
  m : D.m ≤ 60
  P : ∀ i, i < D.m → 0 ≤ D.P i ∧ D.P i < D.n
  T : ∀ i, i < D.m → 0 ≤ D.T i ∧ D.T i ≤ 2
  M : ∀ i, i < D.m → D.M i = 16
theorem pgf_zero {L : Nat → Nat} : ∀ {f k : Nat}, pgf L f k = 0 → ∀ i, k ≤ i → i < k + f → L i = 48
  | 0, k, _, i, h1, h2 => by omega
  | f + 1, k, h, i, h1, h2 => by
    rw [pgf] at h
    by_cases e : L k = 48
    · rw [if_pos e] at h
      by_cases d : i = k
      · subst d; exact e
      · exact pgf_zero h i (by omega) (by omega)
    · rw [if_neg e] at h; omega
theorem lsf_zero {n : Nat} {P T : Nat → Int} {M : Nat → Nat} : ∀ {f k : Nat}, lsf n P T M f k = 0 → ∀ i, k ≤ i → i < k + f → (0 ≤ P i ∧ P i < n) ∧ (0 ≤ T i ∧ T i ≤ 2) ∧ M i = 16
  | 0, k, _, i, h1, h2 => by omega
  | f + 1, k, h, i, h1, h2 => by
    rw [lsf] at h
    by_cases e : inB (P k) 0 ((n : Int) - 1) = false ∨ inB (T k) 0 2 = false
    · rw [if_pos e] at h; omega
    · rw [if_neg e] at h
      by_cases e2 : M k = 16
      · rw [if_pos e2] at h
        by_cases d : i = k
        · subst d
          simp [inB] at e
          exact ⟨⟨by omega, by omega⟩, ⟨by omega, by omega⟩, e2⟩
        · exact lsf_zero h i (by omega) (by omega)
      · rw [if_neg e2] at h; omega
theorem goodD_of {D : Dk} (h : df D = 0) : GoodD D := by
  unfold df at h
  by_cases h1 : inB D.n 1 8 = false
  · rw [if_pos h1] at h; omega
  · rw [if_neg h1] at h
    simp [inB] at h1
    by_cases h2 : pgf D.L D.n 0 = 1
    · rw [if_pos h2] at h; omega
    · rw [if_neg h2] at h
      have h3 : pgf D.L D.n 0 = 0 := by
        rcases pgf_01 D.L D.n 0 with h | h
        · exact h
        · exact absurd h h2
      by_cases h4 : 60 < D.m
      · rw [if_pos h4] at h; omega
      · rw [if_neg h4] at h
        have hl := fun i (hi : i < D.m) => lsf_zero h i (Nat.zero_le _) (by omega)
        exact ⟨by omega, by omega, fun i hi => pgf_zero h3 i (Nat.zero_le _) (by omega), by omega, fun i hi => (hl i hi).1, fun i hi => (hl i hi).2.1, fun i hi => (hl i hi).2.2⟩
/-- The disk of an answer with a code. -/
def E0 : Dk := ⟨0, fun _ => 0, fun _ _ => 0, 0, fun _ => 0, fun _ => 0, fun _ => 0, fun _ _ => 0⟩
def rD (c : Int) (X : Dk) : Dk := if c = 0 then X else E0
def DRes (c : Int) (X : Dk) (w : World) (e : Ending) (w' : World) : Prop :=
  ∃ a a' cap cap', e = .returned (.agg #[.int .i64 c, .slice a (rD c X).n cap, .slice a' (rD c X).m cap']) ∧ Below w.heap.size w w' ∧ OwnD w' w.heap.size w'.heap.size a a' (rD c X)
theorem dres_bad {c : Int} {X : Dk} {w w' : World} (hb : Below w.heap.size w w') (hc : c ≠ 0) : DRes c X w (.returned (.agg #[.int .i64 c, .slice none 0 0, .slice none 0 0])) w' := by
  unfold DRes rD
  rw [if_neg hc]
  exact ⟨none, none, 0, 0, rfl, hb, Nat.le_refl _, w.heap.size, w.heap.size, w.heap.size, w.heap.size, Nat.le_refl _, hb.size, Nat.le_refl _, hb.size, .inl (Nat.le_refl _), ⟨hb.size, .inl rfl⟩, ⟨hb.size, .inl rfl⟩⟩
/-- What PlaceDisk answers. -/
def plD (D : Dk) (idn : Int) (z : Nat → Int) : Dk := ⟨D.n, fun _ => 48, D.Z, D.m + 3, cat D.P (pcP idn) D.m, cat D.T pcT D.m, fun _ => 16, cat D.Y (pcY z) D.m⟩
def plC (D : Dk) (idn : Int) (k : Nat) : Int :=
  if df D = 0 then (if inB idn 0 ((D.n : Int) - 1) = true then (if k = 48 then (if 57 < D.m then 2 else 0) else 1) else 3) else df D
theorem cat_const {α : Type} (x : α) (m : Nat) : cat (fun _ => x) (fun _ => x) m = fun _ => x := by funext i; simp [cat]
theorem shl_get (Z : Nat → Nat → Int) : ∀ n i q, i < n → q < 48 → (shl Z n)[i * 48 + q]? = (bvs (Z i) 48)[q]?
  | 0, i, q, h, _ => by omega
  | n + 1, i, q, h, hq => by
    simp only [shl]
    by_cases e : i = n
    · subst e
      rw [List.getElem?_append_right (by rw [shl_len]; omega), shl_len]
      congr 1; omega
    · rw [List.getElem?_append_left (by rw [shl_len]; omega)]
      exact shl_get Z n i q (by omega) hq
theorem shl_range {w : World} {base b n c : Nat} {Z : Nat → Nat → Int} (h : w.ownsRow base 207 48 (.slice (some ⟨b, 0, none⟩) n c) n (shl Z n)) : ∀ i, i < n → w.rangeAt b (i * 48) (bvs (Z i) 48) := fun i hi j v hv => by
  obtain ⟨hj, rfl⟩ := bvs_get _ _ _ _ hv
  rw [h.cellAt (i * 48 + j) (by omega), shl_get Z n i j hi hj, hv]
set_option maxHeartbeats 1600000 in
theorem implPlace_any (D : Dk) (idn : Int) (k : Nat) (z : Nat → Int) (a a' a3 : Option Addr) (cap cap' cap3 : Nat) (w : World) (hs : Small D) (hk : k ≤ 1048576) (hcap : k ≤ cap3) (h : DiskAt w a a' D) (h3 : BytesAt w a3 k z) :
    Calls Try.prog 136 #[.agg #[.slice a D.n cap, .slice a' D.m cap'], .int .i64 idn, .slice a3 k cap3] w (DRes (plC D idn k) (plD D idn z) w) := by
  have hb0 : ∀ o1 o2, Below w.heap.size w ((w.alloc o1).alloc o2) := fun o1 o2 => ((Below.refl _ _).alloc (Nat.le_refl _) _).alloc (by simp) _
  have HS : Hid (Small D) := hs
  have HA : Hid (DiskAt w a a' D) := h
  have HY : Hid (BytesAt w a3 k z) := h3
  have hn := hs.n
  have hm := hs.m
  clear hs h h3
  by_cases hf : df D = 0
  · have HG : Hid (GoodD D) := goodD_of hf
    have hpl : plC D idn k = (if inB idn 0 ((D.n : Int) - 1) = true then (if k = 48 then (if 57 < D.m then 2 else 0) else 1) else 3) := by unfold plC; rw [if_pos hf]
    generalize hc : plC D idn k = c at *
    have HC : Hid (c = (if inB idn 0 ((D.n : Int) - 1) = true then (if k = 48 then (if 57 < D.m then 2 else 0) else 1) else 3)) := hpl
    clear hpl hc
    go_enter Try.func136, Try.ntmps136
    go_wp2_with fail
    refine (implDf_any D a a' cap cap' _ HS.out (HA.out.below (hb0 _ _))).mono ?_
    rintro e w1 ⟨rfl, hb1⟩
    rw [hf]
    obtain ⟨hcc, hff⟩ := bcell hb1
    have hz : w.heap.size + 1 < w1.heap.size := by have := hb1.size; simp at this; omega
    have q0 : w1.cell? ⟨w.heap.size, 0, none⟩ = some (.slice a D.n cap) := by rw [hcc _ _ (by simp <;> omega)]; simp [go_sem]
    have q1 : w1.cell? ⟨w.heap.size, 1, none⟩ = some (.slice a' D.m cap') := by rw [hcc _ _ (by simp <;> omega)]; simp [go_sem]
    have r0 : w1.cell? ⟨w.heap.size + 1, 0, none⟩ = some (.int .i64 0) := by rw [hcc _ _ (by simp <;> omega)]; simp [go_sem]
    have r1 : w1.cell? ⟨w.heap.size + 1, 1, none⟩ = some (.slice none 0 0) := by rw [hcc _ _ (by simp <;> omega)]; simp [go_sem]
    have r2 : w1.cell? ⟨w.heap.size + 1, 2, none⟩ = some (.slice none 0 0) := by rw [hcc _ _ (by simp <;> omega)]; simp [go_sem]
    have fz : ∀ i, w1.frozen? ⟨w.heap.size + 1, i, none⟩ = false := fun i => by rw [hff _ _ (by simp <;> omega)]; simp [go_sem]
    have HB1 : Hid (Below w.heap.size w w1) := below_then (hb0 _ _) hb1
    clear hcc hff hb1 hb0
    by_cases hin : inB idn 0 ((D.n : Int) - 1) = true
    · by_cases h48 : k = 48
      · subst h48
        by_cases h57 : 57 < D.m
        · have HC2 : Hid (c = 2) := by have h := HC.out; rw [if_pos hin, if_pos rfl, if_pos h57] at h; exact h
          clear HC
          go_wp2_with fail
          refine (isPlace_any idn D.n _ (by omega)).mono ?_
          rintro e w' ⟨rfl, rfl⟩
          go_wp2_with fail
          rw [HC2.out]
          refine bodyPost_ret (v := .agg #[.int .i64 2, .slice none 0 0, .slice none 0 0]) (by simp [results, Try.results136, go_sem, *]) rfl ?_
          refine dres_bad ?_ (by decide)
          repeat (first | exact HB1.out | refine Below.setCell ?_ (by first | omega | (simp <;> omega)) _)
        · have HC2 : Hid (c = 0) := by have h := HC.out; rw [if_pos hin, if_pos rfl, if_neg h57] at h; exact h
          clear HC
          go_wp2_with fail
          refine (isPlace_any idn D.n _ (by omega)).mono ?_
          rintro e w' ⟨rfl, hw'⟩
          rw [hw']
          clear hw' w'
          go_wp2_with fail
          refine (copyLoose_any D.m D.P D.T D.M D.Y a' cap' w1 HG.out.m HG.out.M (HA.out.2.below HB1.out)).mono ?_
          rintro e w2 ⟨v1, rfl, hb2, hal1⟩
          have HB2 : Hid (Below w1.heap.size w1 w2) := hb2
          have HAL1 : Hid (AL w1.heap.size w2 v1 D.m D.P D.T (fun _ => 16) D.Y) := hal1
          clear hb2 hal1
          go_wp2_with fail
          refine (piecesOf_any idn z a3 cap3 w2 hcap (HY.out.below (below_then HB1.out HB2.out))).mono ?_
          rintro e w3 ⟨v2, rfl, hb3, hal2⟩
          obtain ⟨g, c0, hown, hjj, hcg⟩ := HAL1.out
          obtain ⟨g2, c2, hown2, hjj2, hcg2⟩ := hal2
          obtain ⟨b2, cb2, rfl, hb20, hb21⟩ := hown2.form (by omega)
          have hv1 : ∀ q, v1.ownBlock = some q → w1.heap.size ≤ q ∧ q < w2.heap.size := fun q hq => hown.lt q hq
          have hsz2 := HB2.out.size
          have hsz3 := hb3.size
          have HOW1 : Hid (w3.ownsRow w1.heap.size 192 3 v1 D.m (llv D.P D.T g (fun _ => 16) c0 D.m)) := own_below hown hb3
          have HNEW : Hid (∀ j u, (llv (pcP idn) pcT g2 (fun _ => 16) c2 3)[j]? = some u → w3.cell? ((⟨b2, 0, none⟩ : Addr).add j) = some u) := hown2.cells rfl
          have HJN : Hid (∀ (w4 : World) (g' cap' : Nat), w4.ownsRow w1.heap.size 192 3 (.slice (some ⟨g', 0, none⟩) (D.m + 3) cap') (D.m + 3) (llv D.P D.T g (fun _ => 16) c0 D.m ++ llv (pcP idn) pcT g2 (fun _ => 16) c2 3) → w3.grownBy w4 v1.ownBlock → (v1.ownBlock = some g' ∨ g' = w3.heap.size) → AL w1.heap.size w4 (.slice (some ⟨g', 0, none⟩) (D.m + 3) cap') (D.m + 3) (cat D.P (pcP idn) D.m) (cat D.T pcT D.m) (fun _ => 16) (cat D.Y (pcY z) D.m)) := fun w4 g' cap' k1 k2 k3 => by
            have h := AL.join (v2 := v1) (base2 := w2.heap.size) hsz2 (own_below hown hb3) hjj (fun i hi => by
              obtain ⟨x1, x2, x3, x4, x5⟩ := hcg i hi
              exact ⟨x1, x2, x3, x4.block (hb3.block _ x2), x5⟩) (fun q hq => (hv1 q hq).2) hsz3 hjj2 (fun i hi => by
              obtain ⟨x1, x2, x3, x4, x5⟩ := hcg2 i hi
              exact ⟨x1, x2, x4, x5⟩) k1 k2 k3
            rw [cat_const] at h
            exact h
          have HV1 : Hid (∀ q, v1.ownBlock = some q → w1.heap.size ≤ q) := fun q hq => (hv1 q hq).1
          have HB3 : Hid (Below w1.heap.size w1 w3) := below_then HB2.out hb3
          have HL2 : Hid (∀ u ∈ llv (pcP idn) pcT g2 (fun _ => 16) c2 3, u.oneCell' = true) := fun u hu => by
            simp [llv, lv3] at hu
            rcases hu with rfl | rfl | rfl | rfl | rfl | rfl | rfl | rfl | rfl <;> rfl
          clear hb3 hown hjj hcg hown2 hjj2 hcg2 hv1 hb20 hb21
          obtain ⟨i2, hi, hz0, hz1, hz2⟩ := info_parts info114
          have HK : Hid (Try.prog.info? 192 = some i2 ∧ i2.zero = some (.agg #[.int .i64 0, .int .i64 0, .slice none 0 0]) ∧ i2.size = 3 ∧ i2.bytes = 40) := ⟨hi, hz0, hz1, hz2⟩
          clear hi hz0 hz1 hz2
          go_wp2_with (at_builtin; refine wpList_append_lies _ rfl (.tmp 34) (.tmp 37) 62 rfl w1.heap.size 192 i2 (.agg #[.int .i64 0, .int .i64 0, .slice none 0 0]) 3 40 Try.underlying62 HK.out.1 HK.out.2.1 HK.out.2.2.1 HK.out.2.2.2 rfl (by decide) v1 D.m (llv D.P D.T g (fun _ => 16) c0 D.m) rfl HOW1.out ⟨b2, 0, none⟩ 3 cb2 (llv (pcP idn) pcT g2 (fun _ => 16) c2 3) rfl (llv_len _ _ _ _ _ _) HNEW.out HL2.out (by decide) ?d5 ?d6 ?d7 _ rfl ?_)
          case d5 => unfold maxLen; omega
          case d6 => omega
          case d7 => omega
          intro g' cq w4 hown4 hg4 hat4 hlt4
          have hal4 := HJN.out w4 g' cq hown4 hg4 hat4
          have hb4 : Below w1.heap.size w1 w4 := HB3.out.trans (below_grown hg4 (by omega) HV1.out)
          obtain ⟨al, cl, e4, -, hol⟩ := hal4.own
          simp only [Value.slice.injEq] at e4
          obtain ⟨rfl, -, rfl⟩ := e4
          have HOL : Hid (OwnL w4 w1.heap.size w4.heap.size (some ⟨g', 0, none⟩) (D.m + 3) (cat D.P (pcP idn) D.m) (cat D.T pcT D.m) (fun _ => 16) (cat D.Y (pcY z) D.m)) := hol
          have p0 : w4.cell? ⟨w.heap.size, 0, none⟩ = some (.slice a D.n cap) := (hb4.cell (p := ⟨w.heap.size, 0, none⟩) (by show w.heap.size < _; omega)).trans q0
          have HB4 : Hid (Below w1.heap.size w1 w4) := hb4
          clear hown4 hg4 hat4 hlt4 hal4 hol hb4 HJN HNEW HOW1 HL2 HV1 HAL1
          go_wp2_with fail
          refine (sheetsOf_any D.n D.L D.Z a cap w4 HG.out.n8 HG.out.L (HA.out.1.below (HB1.out.trans (HB4.out.mono HB1.out.size)))).mono ?_
          rintro e w5 ⟨v5, rfl, hb5, ho5⟩
          obtain ⟨b5, c5, rfl, hb50, hb51⟩ := ho5.form HG.out.n1
          have HRG : Hid (∀ i, i < D.n → w5.rangeAt b5 (i * 48) (bvs (D.Z i) 48)) := shl_range ho5
          have HB5 : Hid (Below w1.heap.size w1 w5) := HB4.out.trans (hb5.mono HB4.out.size)
          have HOL5 : Hid (OwnL w5 w1.heap.size w4.heap.size (some ⟨g', 0, none⟩) (D.m + 3) (cat D.P (pcP idn) D.m) (cat D.T pcT D.m) (fun _ => 16) (cat D.Y (pcY z) D.m)) := HOL.out.below hb5
          have hs5 := hb5.size
          clear ho5 hb5 hb50 HOL
          go_wp2_with fail
          refine (pagesOf_any D.n D.Z b5 c5 w5 HG.out.n8 hb51 HRG.out).mono ?_
          rintro e w6 ⟨v6, rfl, hb6, hap6⟩
          obtain ⟨ap, cp, rfl, -, hop⟩ := hap6.own
          have hb66 : Below w1.heap.size w1 w6 := HB5.out.trans (hb6.mono HB5.out.size)
          have HOL6 : Hid (OwnL w6 w1.heap.size w4.heap.size (some ⟨g', 0, none⟩) (D.m + 3) (cat D.P (pcP idn) D.m) (cat D.T pcT D.m) (fun _ => 16) (cat D.Y (pcY z) D.m)) := HOL5.out.below hb6
          have HOP6 : Hid (OwnP w6 w5.heap.size w6.heap.size ap D.n (fun _ => 48) D.Z) := hop
          have t0 : w6.cell? ⟨w.heap.size + 1, 0, none⟩ = some (.int .i64 0) := (hb66.cell (p := ⟨w.heap.size + 1, 0, none⟩) (by show w.heap.size + 1 < _; omega)).trans r0
          have t1 : w6.cell? ⟨w.heap.size + 1, 1, none⟩ = some (.slice none 0 0) := (hb66.cell (p := ⟨w.heap.size + 1, 1, none⟩) (by show w.heap.size + 1 < _; omega)).trans r1
          have t2 : w6.cell? ⟨w.heap.size + 1, 2, none⟩ = some (.slice none 0 0) := (hb66.cell (p := ⟨w.heap.size + 1, 2, none⟩) (by show w.heap.size + 1 < _; omega)).trans r2
          have ff : ∀ i, w6.frozen? ⟨w.heap.size + 1, i, none⟩ = false := fun i => (hb66.frozen (p := ⟨w.heap.size + 1, i, none⟩) (by show w.heap.size + 1 < _; omega)).trans (fz i)
          have HB6 : Hid (Below w.heap.size w w6) := HB1.out.trans (hb66.mono HB1.out.size)
          have hs6 := hb6.size
          have hs1 := HB1.out.size
          clear hap6 hop hb6 hb66 HRG HOL5 p0 q0 q1 r0 r1 r2 fz
          go_wp2_with fail
          rw [HC2.out]
          refine bodyPost_ret (v := .agg #[.int .i64 0, .slice ap D.n cp, .slice (some ⟨g', 0, none⟩) (D.m + 3) cq]) (by simp [results, Try.results136, go_sem, *]) rfl ?_
          refine ⟨ap, some ⟨g', 0, none⟩, cp, cq, rfl, ?_, ?_⟩
          · repeat (first | exact HB6.out | refine Below.setCell ?_ (by first | omega | (simp <;> omega)) _)
          · have hw : ∀ w7, Writes (w.heap.size + 1) (w.heap.size + 2) w6 w7 → w7.heap.size = w6.heap.size → OwnD w7 w.heap.size w7.heap.size ap (some ⟨g', 0, none⟩) (plD D idn z) := fun w7 h e => by
              have h4 := HB4.out.size
              exact ⟨Nat.le_refl _, w5.heap.size, w6.heap.size, w1.heap.size, w4.heap.size, by omega, by omega, by omega, by omega, .inr (by omega), HOP6.out.writes h (.inr (by omega)), HOL6.out.writes h (.inr (by omega))⟩
            refine hw _ ?_ (by simp [World.setCell])
            repeat (first | exact Writes.refl _ _ _ | refine Writes.setCell ?_ (by first | omega | (simp <;> omega)) (by first | omega | (simp <;> omega)) _)
      · have HC2 : Hid (c = 1) := by have h := HC.out; rw [if_pos hin, if_neg h48] at h; exact h
        clear HC
        go_wp2_with fail
        refine (isPlace_any idn D.n _ (by omega)).mono ?_
        rintro e w' ⟨rfl, rfl⟩
        go_wp2_with fail
        rw [HC2.out]
        refine bodyPost_ret (v := .agg #[.int .i64 1, .slice none 0 0, .slice none 0 0]) (by simp [results, Try.results136, go_sem, *]) rfl ?_
        refine dres_bad ?_ (by decide)
        repeat (first | exact HB1.out | refine Below.setCell ?_ (by first | omega | (simp <;> omega)) _)
    · have hin' : inB idn 0 ((D.n : Int) - 1) = false := by simpa using hin
      have HC2 : Hid (c = 3) := by have h := HC.out; rw [if_neg hin] at h; exact h
      clear HC hin
      go_wp2_with fail
      refine (isPlace_any idn D.n _ (by omega)).mono ?_
      rintro e w' ⟨rfl, rfl⟩
      go_wp2_with fail
      rw [HC2.out]
      refine bodyPost_ret (v := .agg #[.int .i64 3, .slice none 0 0, .slice none 0 0]) (by simp [results, Try.results136, go_sem, *]) rfl ?_
      refine dres_bad ?_ (by decide)
      repeat (first | exact HB1.out | refine Below.setCell ?_ (by first | omega | (simp <;> omega)) _)
  · have hpl : plC D idn k = df D := by unfold plC; rw [if_neg hf]
    rw [hpl]
    have hd : (df D != 0) = true := by simpa using hf
    have HNZ : Hid (df D ≠ 0) := hf
    clear hpl
    go_enter Try.func136, Try.ntmps136
    go_wp2_with fail
    refine (implDf_any D a a' cap cap' _ HS.out (HA.out.below (hb0 _ _))).mono ?_
    rintro e w1 ⟨rfl, hb1⟩
    obtain ⟨hcc, hff⟩ := bcell hb1
    generalize df D = c at *
    clear hf
    go_wp2_with fail
    refine bodyPost_ret (v := .agg #[.int .i64 c, .slice none 0 0, .slice none 0 0]) (by simp [results, Try.results136, go_sem, hcc]) rfl ?_
    refine dres_bad ?_ HNZ.out
    repeat (first | exact below_then (hb0 _ _) hb1 | refine Below.setCell ?_ (by first | omega | (simp <;> omega)) _)
end Go.Proofs.Ytmopoblladnjbaa
