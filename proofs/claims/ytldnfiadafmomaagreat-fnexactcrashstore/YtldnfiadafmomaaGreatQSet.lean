/- Loose writes done: impl.loosePlaces, impl.settle. -/
import Derived.Test.YtldnfiadafmomaaGreatQBase
import Derived.Test.YtldnfiadafmomaaGreatQPla
namespace Go.Proofs.YtldnfiadafmomaaGreat
open Go.RowKit Go.Deep
set_option linter.unusedVariables false
set_option maxRecDepth 20000

/-! ### what loose writes make of pages -/
/-- A sector laid into pages. -/
def lay (Z : Nat → Nat → Int) (p t : Int) (y : Nat → Int) (q r : Nat) : Int := if (q : Int) = p ∧ 16 * t ≤ r ∧ (r : Int) < 16 * t + 16 then y (r - (16 * t).toNat) else Z q r
/-- The first k of the writes at the places F are done. -/
def stl (D : Dk) (F : Nat → Int) : Nat → Nat → Nat → Int
  | 0 => D.Z
  | k + 1 => lay (stl D F k) (D.P (F k).toNat) (D.T (F k).toNat) (D.Y (F k).toNat)
theorem shl_getD (Z : Nat → Nat → Int) (n i q : Nat) (hi : i < n) (hq : q < 48) : (shl Z n)[i * 48 + q]? = some (.int .u8 (Z i q)) := by
  rw [shl_get Z n i q hi hq]; simp [bvs, hq]
/-- What a store of a sector makes of the cells of n sheets. -/
theorem own_lay {w : World} {base b n c : Nat} {Z : Nat → Nat → Int} {p t : Nat} {y : Nat → Int} (h : w.ownsRow base 149 48 (.slice (some ⟨b, 0, none⟩) n c) n (shl Z n)) (hp : p < n) (ht : t < 3) :
    (w.setCells b (p * 48 + t * 16) (bvs y 16)).ownsRow base 149 48 (.slice (some ⟨b, 0, none⟩) n c) n (shl (lay Z p t y) n) := by
  obtain ⟨hl, h1 | ⟨g, cap, cur, e, hbg, hg, hnc, hcm, hcs, htake⟩⟩ := h
  · cases h1.1
  simp only [Value.slice.injEq, Option.some.injEq, Addr.mk.injEq, and_true, true_and] at e
  obtain ⟨rfl, rfl⟩ := e
  have hrow : w.rowIs b 149 (c * 48) (fun i => cur.getD i undef) := ⟨cur, hg, hcs, fun i hi => by
    have : i < cur.size := by omega
    simp [this]⟩
  obtain ⟨cur', hg', hcs', hc'⟩ := rowIs_setCells (bvs y 16) (p * 48 + t * 16) w _ hrow
  rw [bvs_len] at hc'
  refine ⟨by rw [shl_len], .inr ⟨b, c, cur', rfl, hbg, hg', hnc, hcm, hcs', ?_⟩⟩
  have old : ∀ j, j < n * 48 → cur.getD j undef = .int .u8 (Z (j / 48) (j % 48)) := fun j hj => by
    have h1 : (cur.toList.take (n * 48))[j]? = (shl Z n)[j]? := by rw [htake]
    have h2 := shl_getD Z n (j / 48) (j % 48) (by omega) (Nat.mod_lt _ (by omega))
    have e3 : j / 48 * 48 + j % 48 = j := by omega
    rw [e3] at h2
    rw [h2, List.getElem?_take_of_lt hj] at h1
    have h4 : cur[j]? = some (.int .u8 (Z (j / 48) (j % 48))) := by simpa using h1
    simp [h4]
  apply List.ext_getElem?
  intro j
  by_cases hj : j < n * 48
  · have h2 := shl_getD (lay Z p t y) n (j / 48) (j % 48) (by omega) (Nat.mod_lt _ (by omega))
    have e3 : j / 48 * 48 + j % 48 = j := by omega
    rw [e3] at h2
    have hjc : j < c * 48 := by have := Nat.mul_le_mul_right 48 hnc; omega
    have h5 := hc' j hjc
    have h6 : (cur'.toList.take (n * 48))[j]? = cur'[j]? := by rw [List.getElem?_take_of_lt hj]; simp
    refine (h6.trans h5).trans (Eq.trans ?_ h2.symm)
    refine congrArg some ?_
    dsimp only
    by_cases hin : p * 48 + t * 16 ≤ j ∧ j < p * 48 + t * 16 + 16
    · rw [if_pos hin, bvs_getD _ _ _ (by omega)]
      unfold lay
      have a1 : ((j / 48 : Nat) : Int) = (p : Int) := by omega
      rw [if_pos ⟨a1, by omega, by omega⟩]
      refine congrArg (Value.int .u8) (congrArg y ?_)
      omega
    · rw [if_neg hin, old j hj]
      unfold lay
      rw [if_neg (by omega)]
  · rw [List.getElem?_eq_none (by rw [List.length_take]; omega), List.getElem?_eq_none (by rw [shl_len]; omega)]
theorem cell_setCells {w : World} {b o : Nat} {vs : List Value} {b' o' : Nat} {v : Value} (hne : b' ≠ b) (h : w.cell? ⟨b', o', none⟩ = some v) : (w.setCells b o vs).cell? ⟨b', o', none⟩ = some v := by
  rw [World.cell?_setCells_out b vs o w ⟨b', o', none⟩ (fun e _ => absurd e hne)]; exact h
theorem keep3 {w : World} {b o b' : Nat} {vs : List Value} {x y z : Value} (hne : b' ≠ b) (h0 : w.cell? ⟨b', 0, none⟩ = some x) (h1 : w.cell? ⟨b', 1, none⟩ = some y) (h2 : w.cell? ⟨b', 2, none⟩ = some z) :
    (w.setCells b o vs).cell? ⟨b', 0, none⟩ = some x ∧ (w.setCells b o vs).cell? ⟨b', 1, none⟩ = some y ∧ (w.setCells b o vs).cell? ⟨b', 2, none⟩ = some z := ⟨cell_setCells hne h0, cell_setCells hne h1, cell_setCells hne h2⟩
/-- Behind the sector's making: the box, and that the sheets may be written. -/
theorem after_sec {W w2 : World} {base b5 n c off : Nat} {Z : Nat → Nat → Int} {y : Nat → Int} {x0 x1 x2 : Value} {bx : Nat} (hb : Below W.drew.heap.size W.drew w2) (h0 : W.cell? ⟨bx, 0, none⟩ = some x0) (h1 : W.cell? ⟨bx, 1, none⟩ = some x1) (h2 : W.cell? ⟨bx, 2, none⟩ = some x2)
    (ho : W.ownsRow base 149 48 (.slice (some ⟨b5, 0, none⟩) n c) n (shl Z n)) (hoff : off + 16 ≤ n * 48) :
    (w2.cell? ⟨bx, 0, none⟩ = some x0 ∧ w2.cell? ⟨bx, 1, none⟩ = some x1 ∧ w2.cell? ⟨bx, 2, none⟩ = some x2) ∧ w2.there b5 off (bvs y 16).length ∧ Below W.heap.size W w2 ∧ w2.ownsRow base 149 48 (.slice (some ⟨b5, 0, none⟩) n c) n (shl Z n) := by
  have hb' : Below W.heap.size W w2 := ((Below.refl _ _).drew).trans hb
  have ho2 := own_below ho hb'
  refine ⟨⟨cell_below h0 hb', cell_below h1 hb', cell_below h2 hb'⟩, ?_, hb', ho2⟩
  intro j hj
  rw [bvs_len] at hj
  refine ⟨?_, ho2.frozenAt _⟩
  rw [ho2.cellAt (off + j) (by omega), List.getElem?_eq_getElem (by rw [shl_len]; omega)]; rfl
set_option maxHeartbeats 2000000 in
theorem settle_any (D : Dk) (k3 : Nat) (F : Nat → Int) (a a' a3 : Option Addr) (cap cap' cap3 : Nat) (w : World) (hg : GoodD D) (hk : k3 ≤ 1048576) (hF : ∀ i, i < k3 → 0 ≤ F i ∧ F i < D.m) (h : DiskAt w a a' D) (h3 : IntsAt w a3 k3 F) :
    Calls Tryz.prog 72 #[.agg #[.slice a D.n cap, .slice a' D.m cap'], .slice a3 k3 cap3] w fun e w' => ∃ v c1, e = .returned (.agg #[.slice v D.n c1, .slice none 0 0]) ∧ Below w.heap.size w w' ∧ OwnP w' w.heap.size w'.heap.size v D.n (fun _ => 48) (stl D F k3) := by
  have hb0 : ∀ o1 o2, Below w.heap.size w ((w.alloc o1).alloc o2) := fun o1 o2 => ((Below.refl _ _).alloc (Nat.le_refl _) _).alloc (by simp) _
  have HG : Hid (GoodD D) := hg
  have HF : Hid (∀ i, i < k3 → 0 ≤ F i ∧ F i < D.m) := hF
  have HA : Hid (DiskAt w a a' D) := h
  have H3 : Hid (IntsAt w a3 k3 F) := h3
  have hm60 := hg.m
  have hn8 := hg.n8
  clear hg hF h h3
  go_enter Tryz.func72, Tryz.ntmps72
  go_wp2_with fail
  refine (sheetsOf_any D.n D.L D.Z a cap _ HG.out.n8 HG.out.L (HA.out.1.below (hb0 _ _))).mono ?_
  rintro e w1 ⟨v5, rfl, hb1, ho1⟩
  obtain ⟨b5, c5, rfl, hb50, hb51⟩ := ho1.form HG.out.n1
  have e2 : ∀ o1 o2 : Obj, ((w.alloc o1).alloc o2).heap.size = w.heap.size + 2 := fun _ _ => by simp
  rw [e2] at ho1 hb50
  obtain ⟨hcc, hff⟩ := bcell hb1
  have q0 : w1.cell? ⟨w.heap.size, 0, none⟩ = some (.slice a D.n cap) := by rw [hcc _ _ (by simp <;> omega)]; simp [go_sem]
  have q1 : w1.cell? ⟨w.heap.size, 1, none⟩ = some (.slice a' D.m cap') := by rw [hcc _ _ (by simp <;> omega)]; simp [go_sem]
  have r0 : w1.cell? ⟨w.heap.size + 1, 0, none⟩ = some (.slice none 0 0) := by rw [hcc _ _ (by simp <;> omega)]; simp [go_sem]
  have r1 : w1.cell? ⟨w.heap.size + 1, 1, none⟩ = some (.slice none 0 0) := by rw [hcc _ _ (by simp <;> omega)]; simp [go_sem]
  have fz : ∀ i, w1.frozen? ⟨w.heap.size + 1, i, none⟩ = false := fun i => by rw [hff _ _ (by simp <;> omega)]; simp [go_sem]
  have HB1 : Hid (Below w.heap.size w w1) := below_then (hb0 _ _) hb1
  have HO1 : Hid (w1.ownsRow (w.heap.size + 2) 149 48 (.slice (some ⟨b5, 0, none⟩) D.n c5) D.n (shl D.Z D.n)) := ho1
  have hz1 : w.heap.size + 2 ≤ w1.heap.size := by have := hb1.size; rw [e2] at this; exact this
  clear hcc hff hb1 ho1 hb0 e2
  go_wp2_with fail
  go_loopw [7, 8, 14] (fun _ _ i wr => ∃ k : Nat, k ≤ k3 ∧ i = .int .i64 k ∧ Hid (Below w.heap.size w wr) ∧ Hid (Below (w.heap.size + 2) w1 wr) ∧ Hid (wr.ownsRow (w.heap.size + 2) 149 48 (.slice (some ⟨b5, 0, none⟩) D.n c5) D.n (shl (stl D F k) D.n)) ∧ Hid (w1.heap.size ≤ wr.heap.size)) (fun _ _ i _ => k3 - (intOf i).toNat)
  case atStart => exact ⟨0, by omega, rfl, HB1, Below.refl _ _, HO1, Nat.le_refl _⟩
  case round =>
    obtain ⟨k, hk0, rfl, HB, HW, HO, HSZ⟩ := hrel
    by_cases hlt : k < k3
    · rcases H3.out.below HB.out with h | ⟨b3, o3, rfl, hl3, hc3⟩
      · omega
      have h3k := hc3 k hlt
      obtain ⟨f, hf⟩ : ∃ f : Nat, F k = f := ⟨(F k).toNat, by have := HF.out k hlt; omega⟩
      have hfm : f < D.m := by have := HF.out k hlt; omega
      rcases HA.out.2.below HB.out with h | ⟨b, off, rfl, hl, hc⟩
      · omega
      obtain ⟨h0, h1, ai, ci, h2, hy, hcap⟩ := hc f hfm
      rw [HG.out.M f hfm] at h2 hy
      obtain ⟨p, hp⟩ : ∃ p : Nat, D.P f = p := ⟨(D.P f).toNat, by have := HG.out.P f hfm; omega⟩
      obtain ⟨t, ht⟩ : ∃ t : Nat, D.T f = t := ⟨(D.T f).toNat, by have := HG.out.T f hfm; omega⟩
      have hpn : p < D.n := by have := HG.out.P f hfm; omega
      have ht3 : t < 3 := by have := HG.out.T f hfm; omega
      have HST : Hid (stl D F (k + 1) = lay (stl D F k) p t (D.Y f)) := by
        show lay (stl D F k) (D.P (F k).toNat) (D.T (F k).toNat) (D.Y (F k).toNat) = _
        rw [hf, Int.toNat_natCast, hp, ht]
      rw [hf] at h3k
      rw [hp] at h0
      rw [ht] at h1
      have HY : Hid (BytesAt wr ai 16 (D.Y f)) := hy
      have q1' : wr.cell? ⟨w.heap.size, 1, none⟩ = some (.slice (some ⟨b, off, none⟩) D.m cap') := (HW.out.cell (p := ⟨w.heap.size, 1, none⟩) (by show w.heap.size < w.heap.size + 2; omega)).trans q1
      have hlt' : (k : Int) < (k3 : Int) := by omega
      have hfm' : (f : Int) < (D.m : Int) := by omega
      have hpn' : (p : Int) < (D.n : Int) := by omega
      have ht3' : (t : Int) < 3 := by omega
      generalize hZ : stl D F k = Zk at *
      clear hc3 hc hy hcap hf hp ht
      go_wp2_with fail
      have HBX := Box3.new wr (.int .i64 (p : Int)) (.int .i64 (t : Int)) (.slice ai 16 ci) 96
      obtain ⟨s0, s1, s2⟩ := HBX
      have h1c : ∀ v ∈ bvs (D.Y f) 16, v.oneCell' = true := bvs_one _ _
      have hsz9 : (Tryz.prog.info? 146).map (·.size) = some (bvs (D.Y f) 16).length := by rw [size144, bvs_len]
      have hbne : wr.heap.size ≠ b5 := by have := (HO.out.lt b5 rfl).2; omega
      go_region_held3 (fun w' => w'.cell? ⟨wr.heap.size, 0, none⟩ = some (.int .i64 (p : Int)) ∧ w'.cell? ⟨wr.heap.size, 1, none⟩ = some (.int .i64 (t : Int)) ∧ w'.cell? ⟨wr.heap.size, 2, none⟩ = some (.slice ai 16 ci)) (first | exact keep3 hbne (by assumption) (by assumption) (by assumption) | go_keep)
        (first | (go_at_call 103; refine (sectorOf_any 16 (D.Y f) ai ci _ (by omega) (HY.out.below ((below_new _ _).drew))).mono ?_; rintro e w2 ⟨rfl, hb2⟩; obtain ⟨⟨t0, t1, t2⟩, hst, hbw, how⟩ := after_sec (off := p * 48 + t * 16) (y := D.Y f) hb2 s0 s1 s2 (HO.out.alloc _) (by omega)))
      have hb5w : w.heap.size + 2 ≤ b5 := hb50
      have hbA : Below wr.heap.size wr w2 := (below_new _ _).trans (hbw.mono (by rw [World.size_alloc]; omega))
      have HBA : Hid (Below wr.heap.size wr w2) := hbA
      have HOW : Hid (w2.ownsRow (w.heap.size + 2) 149 48 (.slice (some ⟨b5, 0, none⟩) D.n c5) D.n (shl Zk D.n)) := how
      clear hbw how hbA t0 t1 t2 s0 s1 s2 h1c hsz9 hst hb2 h3k h0 h1 h2 q1'
      go_wp2_with fail
      go_roundw
      case rel =>
        have hs1 := HB.out.size
        have hs2 := HSZ.out
        have hs3 := HBA.out.size
        have hw := Writes.setCells (lo := b5) (hi := b5 + 1) (Nat.le_refl _) (by omega) (bvs (D.Y f) 16) (p * 48 + t * 16) w2 (Writes.refl _ _ _)
        have hwb : Below (w.heap.size + 2) w2 (w2.setCells b5 (p * 48 + t * 16) (bvs (D.Y f) 16)) := ⟨hw.os, hw.tape, hw.output, hw.size, fun q hq => hw.block q (by omega) (by omega)⟩
        refine ⟨k + 1, hlt, by go_num, ?_, ?_, ?_, ?_⟩
        · exact (HB.out.trans (HBA.out.mono (by omega))).trans (hwb.mono (by omega))
        · exact (HW.out.trans (HBA.out.mono (by omega))).trans hwb
        · show World.ownsRow _ _ _ _ _ _ (shl (stl D F (k + 1)) D.n)
          rw [HST.out]; exact own_lay HOW.out hpn ht3
        · have := hw.size
          show w1.heap.size ≤ _
          omega
      case measure => simp [intOf]; omega
    · have hkn : k = k3 := by omega
      have HO2 : Hid (wr.ownsRow (w.heap.size + 2) 149 48 (.slice (some ⟨b5, 0, none⟩) D.n c5) D.n (shl (stl D F k3) D.n)) := by have h := HO.out; rw [hkn] at h; exact h
      have hb5l : b5 < wr.heap.size := by have := HSZ.out; omega
      have t0 : wr.cell? ⟨w.heap.size + 1, 0, none⟩ = some (.slice none 0 0) := (HW.out.cell (p := ⟨w.heap.size + 1, 0, none⟩) (by show w.heap.size + 1 < w.heap.size + 2; omega)).trans r0
      have t1 : wr.cell? ⟨w.heap.size + 1, 1, none⟩ = some (.slice none 0 0) := (HW.out.cell (p := ⟨w.heap.size + 1, 1, none⟩) (by show w.heap.size + 1 < w.heap.size + 2; omega)).trans r1
      have tf : ∀ i, wr.frozen? ⟨w.heap.size + 1, i, none⟩ = false := fun i => (HW.out.frozen (p := ⟨w.heap.size + 1, i, none⟩) (by show w.heap.size + 1 < w.heap.size + 2; omega)).trans (fz i)
      have hsw : w.heap.size + 2 ≤ wr.heap.size := by have := HSZ.out; omega
      clear hkn HO q0 q1 r0 r1 fz
      go_wp2_with fail
      refine (pagesOf_any D.n (stl D F k3) b5 c5 wr HG.out.n8 hb5l (shl_range HO2.out)).mono ?_
      rintro e w3 ⟨v3, rfl, hb3, hap⟩
      obtain ⟨ap, cp, rfl, -, hop⟩ := hap.own
      have u0 := cell_below t0 hb3
      have u1 := cell_below t1 hb3
      have uf : ∀ i, w3.frozen? ⟨w.heap.size + 1, i, none⟩ = false := fun i => (hb3.frozen (p := ⟨w.heap.size + 1, i, none⟩) (by show w.heap.size + 1 < _; omega)).trans (tf i)
      have HB3 : Hid (Below w.heap.size w w3) := below_then HB.out hb3
      have HOP : Hid (OwnP w3 wr.heap.size w3.heap.size ap D.n (fun _ => 48) (stl D F k3)) := hop
      have hs3 := hb3.size
      clear hb3 hap hop t0 t1 tf
      go_wp2_with fail
      refine bodyPost_ret (v := .agg #[.slice ap D.n cp, .slice none 0 0]) (by simp [results, Tryz.results72, go_sem, *]) rfl ⟨ap, cp, rfl, ?_, ?_⟩
      · repeat (first | exact HB3.out | refine Below.setCell ?_ (by first | omega | (simp <;> omega)) _)
      · have hw : ∀ w7, Writes (w.heap.size + 1) (w.heap.size + 2) w3 w7 → w7.heap.size = w3.heap.size → OwnP w7 w.heap.size w7.heap.size ap D.n (fun _ => 48) (stl D F k3) := fun w7 h e => by
          rw [e]
          exact (HOP.out.writes h (.inr (by omega))).wide (by omega) (Nat.le_refl _) (by omega)
        refine hw _ ?_ (by simp [World.setCell])
        repeat (first | exact Writes.refl _ _ _ | refine Writes.setCell ?_ (by first | omega | (simp <;> omega)) (by first | omega | (simp <;> omega)) _)
end Go.Proofs.YtldnfiadafmomaaGreat
