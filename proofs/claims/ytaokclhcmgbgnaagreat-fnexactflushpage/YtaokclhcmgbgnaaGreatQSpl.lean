/- impl.SyncDisk. -/
import Derived.Test.YtaokclhcmgbgnaaGreatQLp
import Derived.Test.YtaokclhcmgbgnaaGreatQLpx
import Derived.Test.YtaokclhcmgbgnaaGreatQCq
import Derived.Test.YtaokclhcmgbgnaaGreatQBase
import Derived.Test.YtaokclhcmgbgnaaGreatQDg
namespace Go.Proofs.YtaokclhcmgbgnaaGreat
open Go.RowKit Go.Deep
set_option linter.unusedVariables false
set_option maxRecDepth 20000

theorem l2Place_many (n m : Nat) (idn : Int) (a a' : Option Addr) (cap cap' : Nat) (v3 : Value) (w : World) (hm : 57 < m) (hm2 : m ≤ 1048576) :
    Calls Tryz.prog 29 #[.agg #[.slice a n cap, .slice a' m cap'], .int .i64 idn, v3] w fun e w' => e = .returned (.tuple #[.agg #[.slice a n cap, .slice a' m cap'], .int .i64 2]) ∧ Below w.heap.size w w' := by
  have hm60 : (60 < (m : Int) + 3) := by omega
  go_enter Tryz.func29, Tryz.ntmps29
  go_wp2_with fail
  refine bodyPost_ret (v := .tuple #[.agg #[.slice a n cap, .slice a' m cap'], .int .i64 2]) (by simp [results, Tryz.results29, go_sem]) rfl ⟨rfl, ?_⟩
  exact ((Below.refl _ _).alloc (Nat.le_refl _) _).alloc (by simp) _
/-- What WriteDisk tells. -/
def wrC (D : Dk) (idn lsn : Int) (n : Nat) (K V : Nat → Int) : Int := if df D = 0 then (if pf idn lsn n K V = 0 then plC D idn 48 else pf idn lsn n K V) else df D
def wrD (D : Dk) (idn lsn : Int) (n : Nat) (K V : Nat → Int) : Dk := plD D idn (zOf (pgb idn lsn n K V))
set_option maxHeartbeats 1600000 in
theorem implWriteP_any (D : Dk) (idn lsn : Int) (n : Nat) (K V : Nat → Int) (a a' : Option Addr) (cap cap' : Nat) (pa : Option Addr) (pc : Nat) (w : World) (hs : Small D) (hn : n ≤ 1048576) (h : DiskAt w a a' D) (hp : CellsAt w pa n K V) :
    Calls Tryz.prog 101 #[.agg #[.slice a D.n cap, .slice a' D.m cap'], .agg #[.int .i64 idn, .int .i64 lsn, .slice pa n pc]] w (DRes (wrC D idn lsn n K V) (wrD D idn lsn n K V) w) := by
  have hb0 : ∀ o1 o2 o3, Below w.heap.size w (((w.alloc o1).alloc o2).alloc o3) := fun o1 o2 o3 => (((Below.refl _ _).alloc (Nat.le_refl _) _).alloc (by simp) _).alloc (by simp; omega) _
  have HS : Hid (Small D) := hs
  have HA : Hid (DiskAt w a a' D) := h
  have HP : Hid (CellsAt w pa n K V) := hp
  clear hs h hp
  by_cases hf : df D = 0
  · by_cases hpf : pf idn lsn n K V = 0
    · have hc : wrC D idn lsn n K V = plC D idn 48 := by unfold wrC; rw [if_pos hf, if_pos hpf]
      rw [hc]
      have HG : Hid (GoodP idn lsn n K V) := good_of hpf
      go_enter Tryz.func101, Tryz.ntmps101
      go_wp2_with fail
      refine (implDf_any D a a' cap cap' _ HS.out (HA.out.below (hb0 _ _ _))).mono ?_
      rintro e w1 ⟨rfl, hb1⟩
      rw [hf]
      obtain ⟨hcc, hff⟩ := bcell hb1
      have hz : w.heap.size + 2 < w1.heap.size := by have := hb1.size; simp at this; omega
      have q0 : w1.cell? ⟨w.heap.size, 0, none⟩ = some (.slice a D.n cap) := by rw [hcc _ _ (by simp <;> omega)]; simp [go_sem]
      have q1 : w1.cell? ⟨w.heap.size, 1, none⟩ = some (.slice a' D.m cap') := by rw [hcc _ _ (by simp <;> omega)]; simp [go_sem]
      have p0 : w1.cell? ⟨w.heap.size + 1, 0, none⟩ = some (.int .i64 idn) := by rw [hcc _ _ (by simp <;> omega)]; simp [go_sem]
      have p1 : w1.cell? ⟨w.heap.size + 1, 1, none⟩ = some (.int .i64 lsn) := by rw [hcc _ _ (by simp <;> omega)]; simp [go_sem]
      have p2 : w1.cell? ⟨w.heap.size + 1, 2, none⟩ = some (.slice pa n pc) := by rw [hcc _ _ (by simp <;> omega)]; simp [go_sem]
      have r0 : w1.cell? ⟨w.heap.size + 1 + 1, 0, none⟩ = some (.int .i64 0) := by rw [hcc _ _ (by simp <;> omega)]; simp [go_sem]
      have r1 : w1.cell? ⟨w.heap.size + 1 + 1, 1, none⟩ = some (.slice none 0 0) := by rw [hcc _ _ (by simp <;> omega)]; simp [go_sem]
      have r2 : w1.cell? ⟨w.heap.size + 1 + 1, 2, none⟩ = some (.slice none 0 0) := by rw [hcc _ _ (by simp <;> omega)]; simp [go_sem]
      have fz : ∀ i, w1.frozen? ⟨w.heap.size + 1 + 1, i, none⟩ = false := fun i => by rw [hff _ _ (by simp <;> omega)]; simp [go_sem]
      have HB1 : Hid (Below w.heap.size w w1) := below_then (hb0 _ _ _) hb1
      clear hcc hff hb1 hb0
      go_wp2_with fail
      refine (implPack2 idn lsn n K V pa pc w1 (by omega) (HP.out.below HB1.out)).mono ?_
      rintro e w2 ⟨ap, cp, rfl, hb2, hob, hcp⟩
      simp only [hpf, if_true] at hob hcp ⊢
      have hl48 : (pgb idn lsn n K V).length = 48 := pgb_48 HG.out.gn
      rw [hl48] at hob hcp ⊢
      have s0 := cell_below q0 hb2
      have s1 := cell_below q1 hb2
      have s2 := cell_below p0 hb2
      have s3 := cell_below r0 hb2
      have s4 := cell_below r1 hb2
      have s5 := cell_below r2 hb2
      have m0 := fun o : Obj => cell_alloc s0 o
      have m1 := fun o : Obj => cell_alloc s1 o
      have m2 := fun o : Obj => cell_alloc s2 o
      have HY : Hid (BytesAt w2 ap 48 (zOf (pgb idn lsn n K V))) := hob.at
      have HCP : Hid (48 ≤ cp) := hcp
      have HB2 : Hid (Below w.heap.size w w2) := below_then HB1.out hb2
      have hz2 : w.heap.size + 2 < w2.heap.size := by have := hb2.size; omega
      have fz2 : ∀ i, w2.frozen? ⟨w.heap.size + 1 + 1, i, none⟩ = false := fun i => (hb2.frozen (p := ⟨w.heap.size + 1 + 1, i, none⟩) (by show w.heap.size + 1 + 1 < _; omega)).trans (fz i)
      clear hb2 hob hcp q0 q1 p0 p1 p2 r0 r1 r2 fz
      go_wp2_with fail
      have hba : ∀ o, Below w.heap.size w (w2.alloc o) := fun o => HB2.out.alloc HB2.out.size o
      refine (implPlace_any D idn 48 (zOf (pgb idn lsn n K V)) a a' ap cap cap' cp _ HS.out (by omega) HCP.out (HA.out.below (hba _)) (HY.out.below (below_new _ _))).mono ?_
      rintro e w3 ⟨ar, ar2, cr, cr2, rfl, hb3, hod⟩
      have hsz : w2.heap.size + 1 ≤ w3.heap.size := by have := hb3.size; rw [World.size_alloc] at this; exact this
      have t0 : w3.cell? ⟨w.heap.size + 1 + 1, 0, none⟩ = some (.int .i64 0) := cell_below (cell_alloc s3 _) hb3
      have t1 : w3.cell? ⟨w.heap.size + 1 + 1, 1, none⟩ = some (.slice none 0 0) := cell_below (cell_alloc s4 _) hb3
      have t2 : w3.cell? ⟨w.heap.size + 1 + 1, 2, none⟩ = some (.slice none 0 0) := cell_below (cell_alloc s5 _) hb3
      have tf : ∀ i, w3.frozen? ⟨w.heap.size + 1 + 1, i, none⟩ = false := fun i => (hb3.frozen (p := ⟨w.heap.size + 1 + 1, i, none⟩) (by rw [World.size_alloc]; show w.heap.size + 1 + 1 < _; omega)).trans (by rw [World.frozen?_alloc_past _ _ _ (by show w.heap.size + 1 + 1 < _; omega)]; exact fz2 i)
      have HB3 : Hid (Below w.heap.size w w3) := (hba _).trans (hb3.mono (by rw [World.size_alloc]; omega))
      rw [World.size_alloc] at hod
      generalize plC D idn 48 = c at *
      have HOD : Hid (OwnD w3 (w2.heap.size + 1) w3.heap.size ar ar2 (rD c (plD D idn (zOf (pgb idn lsn n K V))))) := hod
      have HX : Hid (wrD D idn lsn n K V = plD D idn (zOf (pgb idn lsn n K V))) := rfl
      generalize plD D idn (zOf (pgb idn lsn n K V)) = X at *
      generalize hR : rD c X = R at *
      have HR : Hid (rD c X = R) := hR
      clear hb3 hod hba s0 s1 s2 s3 s4 s5 m0 m1 m2 fz2 hR
      go_wp2_with fail
      refine bodyPost_ret (v := .agg #[.int .i64 c, .slice ar R.n cr, .slice ar2 R.m cr2]) (by simp [results, Tryz.results101, go_sem, *]) rfl ?_
      unfold DRes
      rw [HX.out, HR.out]
      refine ⟨ar, ar2, cr, cr2, rfl, ?_, ?_⟩
      · repeat (first | exact HB3.out | refine Below.setCell ?_ (by first | omega | (simp <;> omega)) _)
      · have hw : ∀ w7, Writes (w.heap.size + 2) (w.heap.size + 3) w3 w7 → w7.heap.size = w3.heap.size → OwnD w7 w.heap.size w7.heap.size ar ar2 R := fun w7 h e => by
          rw [e]
          exact (HOD.out.writes h (.inr (by omega))).wide (by omega) (Nat.le_refl _) (by omega)
        refine hw _ ?_ (by simp [World.setCell])
        repeat (first | exact Writes.refl _ _ _ | refine Writes.setCell ?_ (by first | omega | (simp <;> omega)) (by first | omega | (simp <;> omega)) _)
    · have hc : wrC D idn lsn n K V = pf idn lsn n K V := by unfold wrC; rw [if_pos hf, if_neg hpf]
      rw [hc]
      have hd : (pf idn lsn n K V != 0) = true := by simpa using hpf
      have HNZ : Hid (pf idn lsn n K V ≠ 0) := hpf
      go_enter Tryz.func101, Tryz.ntmps101
      go_wp2_with fail
      refine (implDf_any D a a' cap cap' _ HS.out (HA.out.below (hb0 _ _ _))).mono ?_
      rintro e w1 ⟨rfl, hb1⟩
      rw [hf]
      obtain ⟨hcc, hff⟩ := bcell hb1
      have hz : w.heap.size + 2 < w1.heap.size := by have := hb1.size; simp at this; omega
      have p0 : w1.cell? ⟨w.heap.size + 1, 0, none⟩ = some (.int .i64 idn) := by rw [hcc _ _ (by simp <;> omega)]; simp [go_sem]
      have p1 : w1.cell? ⟨w.heap.size + 1, 1, none⟩ = some (.int .i64 lsn) := by rw [hcc _ _ (by simp <;> omega)]; simp [go_sem]
      have p2 : w1.cell? ⟨w.heap.size + 1, 2, none⟩ = some (.slice pa n pc) := by rw [hcc _ _ (by simp <;> omega)]; simp [go_sem]
      have r0 : w1.cell? ⟨w.heap.size + 1 + 1, 0, none⟩ = some (.int .i64 0) := by rw [hcc _ _ (by simp <;> omega)]; simp [go_sem]
      have r1 : w1.cell? ⟨w.heap.size + 1 + 1, 1, none⟩ = some (.slice none 0 0) := by rw [hcc _ _ (by simp <;> omega)]; simp [go_sem]
      have r2 : w1.cell? ⟨w.heap.size + 1 + 1, 2, none⟩ = some (.slice none 0 0) := by rw [hcc _ _ (by simp <;> omega)]; simp [go_sem]
      have fz : ∀ i, w1.frozen? ⟨w.heap.size + 1 + 1, i, none⟩ = false := fun i => by rw [hff _ _ (by simp <;> omega)]; simp [go_sem]
      have HB1 : Hid (Below w.heap.size w w1) := below_then (hb0 _ _ _) hb1
      clear hcc hff hb1 hb0
      go_wp2_with fail
      refine (implPack2 idn lsn n K V pa pc w1 (by omega) (HP.out.below HB1.out)).mono ?_
      rintro e w2 ⟨ap, cp, rfl, hb2, hob, hcp⟩
      simp only [hpf, if_false, List.length_nil] at hob hcp ⊢
      have s3 := cell_below r0 hb2
      have s4 := cell_below r1 hb2
      have s5 := cell_below r2 hb2
      have m3 := fun o : Obj => cell_alloc s3 o
      have m4 := fun o : Obj => cell_alloc s4 o
      have m5 := fun o : Obj => cell_alloc s5 o
      have HB2 : Hid (Below w.heap.size w w2) := below_then HB1.out hb2
      have hz2 : w.heap.size + 2 < w2.heap.size := by have := hb2.size; omega
      have fz2 : ∀ (o : Obj) i, (w2.alloc o).frozen? ⟨w.heap.size + 1 + 1, i, none⟩ = false := fun o i => by rw [World.frozen?_alloc_past _ _ _ (by show w.heap.size + 1 + 1 < _; omega)]; exact (hb2.frozen (p := ⟨w.heap.size + 1 + 1, i, none⟩) (by show w.heap.size + 1 + 1 < _; omega)).trans (fz i)
      have fz3 : ∀ i, w2.frozen? ⟨w.heap.size + 1 + 1, i, none⟩ = false := fun i => (hb2.frozen (p := ⟨w.heap.size + 1 + 1, i, none⟩) (by show w.heap.size + 1 + 1 < _; omega)).trans (fz i)
      generalize pf idn lsn n K V = c at *
      clear hb2 hob hcp p0 p1 p2 r0 r1 r2 fz hpf
      go_wp2_with fail
      refine bodyPost_ret (v := .agg #[.int .i64 c, .slice none 0 0, .slice none 0 0]) (by simp [results, Tryz.results101, go_sem, *]) rfl ?_
      refine dres_bad ?_ HNZ.out
      repeat (first | exact HB2.out | refine Below.setCell ?_ (by first | omega | (simp <;> omega)) _ | refine Below.alloc ?_ (by simp [World.setCell]; omega) _)
  · have hc : wrC D idn lsn n K V = df D := by unfold wrC; rw [if_neg hf]
    rw [hc]
    have hd : (df D != 0) = true := by simpa using hf
    have HNZ : Hid (df D ≠ 0) := hf
    clear hc
    go_enter Tryz.func101, Tryz.ntmps101
    go_wp2_with fail
    refine (implDf_any D a a' cap cap' _ HS.out (HA.out.below (hb0 _ _ _))).mono ?_
    rintro e w1 ⟨rfl, hb1⟩
    obtain ⟨hcc, hff⟩ := bcell hb1
    generalize df D = c at *
    clear hf
    go_wp2_with fail
    refine bodyPost_ret (v := .agg #[.int .i64 c, .slice none 0 0, .slice none 0 0]) (by simp [results, Tryz.results101, go_sem, hcc]) rfl ?_
    refine dres_bad ?_ HNZ.out
    repeat (first | exact below_then (hb0 _ _ _) hb1 | refine Below.setCell ?_ (by first | omega | (simp <;> omega)) _)
set_option maxHeartbeats 800000 in
theorem loosePlaces_any (n m : Nat) (a a' : Option Addr) (cap cap' : Nat) (w : World) (hm : m ≤ 60) :
    Calls Tryz.prog 166 #[.agg #[.slice a n cap, .slice a' m cap']] w fun e w' => ∃ v cv, e = .returned (.slice v m cv) ∧ Below w.heap.size w w' ∧ IntsAt w' v m (fun i => i) := by
  obtain ⟨i0, hi, hz0, hz1, hz2⟩ := info_parts info2
  have HI : Hid (Tryz.prog.info? 2 = some i0 ∧ i0.zero = some (.int .i64 0) ∧ i0.size = 1 ∧ i0.bytes = 8) := ⟨hi, hz0, hz1, hz2⟩
  clear hi hz0 hz1 hz2
  go_enter Tryz.func166, Tryz.ntmps166
  go_wp2_with fail
  go_loopw [3, 4, 8] (fun v _ i wr => ∃ k : Nat, k ≤ m ∧ i = .int .i64 k ∧ Hid (Below w.heap.size w wr) ∧ Hid (wr.ownsRow (w.heap.size + 1) 2 1 v k (ivs (fun i => i) k)) ∧ Hid (w.heap.size + 1 ≤ wr.heap.size)) (fun _ _ i _ => m - (intOf i).toNat)
  case atStart => exact ⟨0, by omega, rfl, below_new _ _, World.ownsRow_nil _ _ _ _, by show w.heap.size + 1 ≤ _; rw [World.size_alloc]; omega⟩
  case round =>
    obtain ⟨k, hk, rfl, HB, HO, HS⟩ := hrel
    by_cases hlt : k < m
    · have hlt' : (k : Int) < (m : Int) := by omega
      go_wp2_with (at_builtin; refine wpList_append_own _ rfl (.tmp 11) (.tmp 13) 31 rfl (w.heap.size + 1) 2 i0 (.int .i64 0) 1 8 Tryz.underlying31 HI.out.1 HI.out.2.1 HI.out.2.2.1 HI.out.2.2.2 rfl (by decide) _ k (ivs (fun i => i) k) rfl (HO.out.alloc _) ⟨wr.heap.size, 0, none⟩ 1 1 [.int .i64 k] rfl rfl (cell_one_new _ _ _) (one_i64 _) ?c3 ?c4 ?c5 ?_)
      case c3 => unfold maxLen; omega
      case c4 => omega
      case c5 => have := HS.out; rw [World.size_alloc]; omega
      intro v1 w1 ho1 hg1 _
      have HO1 : Hid (w1.ownsRow (w.heap.size + 1) 2 1 v1 (k + 1) (ivs (fun i => i) (k + 1))) := by rw [ivs_succ]; exact ho1
      have HB1 : Hid (Below w.heap.size w w1) := Below.grown (HB.out.alloc HB.out.size _) hg1 (by rw [World.size_alloc]; have := HB.out.size; omega) (fun q hq => by have := (HO.out.lt q hq).1; omega)
      have HS1 : Hid (w.heap.size + 1 ≤ w1.heap.size) := by have h1 := hg1.size; have h2 := HS.out; rw [World.size_alloc] at h1; show w.heap.size + 1 ≤ w1.heap.size; omega
      clear ho1 hg1
      go_wp2_with fail
      go_roundw
      case rel => exact ⟨k + 1, hlt, by go_num, HB1.out, HO1.out, HS1.out⟩
      case measure => simp [intOf]; omega
    · have hkn : k = m := by omega
      have HO2 : Hid (wr.ownsRow (w.heap.size + 1) 2 1 u3 m (ivs (fun i => i) m)) := by have h := HO.out; rw [hkn] at h; exact h
      obtain ⟨va, vc, rfl, hia⟩ := ints_of_own HO2.out
      have HIA : Hid (IntsAt wr va m (fun i => i)) := hia
      clear hia HO hkn
      go_wp2_with fail
      go_ret
      exact ⟨va, vc, rfl, HB.out, HIA.out⟩
/-! ### what loose writes make of pages -/
/-- A sector laid into pages. -/
def lay (Z : Nat → Nat → Int) (p t : Int) (y : Nat → Int) (q r : Nat) : Int := if (q : Int) = p ∧ 16 * t ≤ r ∧ (r : Int) < 16 * t + 16 then y (r - (16 * t).toNat) else Z q r
/-- The first k of the writes at the places F are done. -/
def stl (D : Dk) (F : Nat → Int) : Nat → Nat → Nat → Int
  | 0 => D.Z
  | k + 1 => lay (stl D F k) (D.P (F k).toNat) (D.T (F k).toNat) (D.Y (F k).toNat)
theorem shl_getD (Z : Nat → Nat → Int) (n i q : Nat) (hi : i < n) (hq : q < 48) : (shl Z n)[i * 48 + q]? = some (.int .u8 (Z i q)) := by
  rw [shl_get Z n i q hi hq]; simp [bvs, hq]
/-- What a store of a sector makes of the cells of n sheets. -/
theorem own_lay {w : World} {base b n c : Nat} {Z : Nat → Nat → Int} {p t : Nat} {y : Nat → Int} (h : w.ownsRow base 241 48 (.slice (some ⟨b, 0, none⟩) n c) n (shl Z n)) (hp : p < n) (ht : t < 3) :
    (w.setCells b (p * 48 + t * 16) (bvs y 16)).ownsRow base 241 48 (.slice (some ⟨b, 0, none⟩) n c) n (shl (lay Z p t y) n) := by
  obtain ⟨hl, h1 | ⟨g, cap, cur, e, hbg, hg, hnc, hcm, hcs, htake⟩⟩ := h
  · cases h1.1
  simp only [Value.slice.injEq, Option.some.injEq, Addr.mk.injEq, and_true, true_and] at e
  obtain ⟨rfl, rfl⟩ := e
  have hrow : w.rowIs b 241 (c * 48) (fun i => cur.getD i undef) := ⟨cur, hg, hcs, fun i hi => by
    have : i < cur.size := by omega
    simp [this]⟩
  obtain ⟨cur', hg', hcs', hc'⟩ := rowIs_setCells (bvs y 16) (p * 48 + t * 16) w _ hrow
  rw [bvs_len] at hc'
  refine ⟨by rw [shl_len], .inr ⟨b, c, cur', rfl, hbg, hg', hnc, hcm, hcs', ?_⟩⟩
  have old : ∀ j, j < n * 48 → cur.getD j undef = .int .u8 (Z (j / 48) (j % 48)) := fun j hj => by
    have h1 : (cur.toList.take (n * 48))[j]? = (shl Z n)[j]? := by rw [htake]
    have h2 := shl_getD Z n (j / 48) (j % 48) (by omega) (Nat.mod_lt _ (by omega))
    have e3 : j / 48 * 48 + j % 48 = j := by omega
    rw [e3] at h2
    rw [h2, List.getElem?_take_of_lt hj] at h1
    have h4 : cur[j]? = some (.int .u8 (Z (j / 48) (j % 48))) := by simpa using h1
    simp [h4]
  apply List.ext_getElem?
  intro j
  by_cases hj : j < n * 48
  · have h2 := shl_getD (lay Z p t y) n (j / 48) (j % 48) (by omega) (Nat.mod_lt _ (by omega))
    have e3 : j / 48 * 48 + j % 48 = j := by omega
    rw [e3] at h2
    have hjc : j < c * 48 := by have := Nat.mul_le_mul_right 48 hnc; omega
    have h5 := hc' j hjc
    have h6 : (cur'.toList.take (n * 48))[j]? = cur'[j]? := by rw [List.getElem?_take_of_lt hj]; simp
    refine (h6.trans h5).trans (Eq.trans ?_ h2.symm)
    refine congrArg some ?_
    dsimp only
    by_cases hin : p * 48 + t * 16 ≤ j ∧ j < p * 48 + t * 16 + 16
    · rw [if_pos hin, bvs_getD _ _ _ (by omega)]
      unfold lay
      have a1 : ((j / 48 : Nat) : Int) = (p : Int) := by omega
      rw [if_pos ⟨a1, by omega, by omega⟩]
      refine congrArg (Value.int .u8) (congrArg y ?_)
      omega
    · rw [if_neg hin, old j hj]
      unfold lay
      rw [if_neg (by omega)]
  · rw [List.getElem?_eq_none (by rw [List.length_take]; omega), List.getElem?_eq_none (by rw [shl_len]; omega)]
theorem cell_setCells {w : World} {b o : Nat} {vs : List Value} {b' o' : Nat} {v : Value} (hne : b' ≠ b) (h : w.cell? ⟨b', o', none⟩ = some v) : (w.setCells b o vs).cell? ⟨b', o', none⟩ = some v := by
  rw [World.cell?_setCells_out b vs o w ⟨b', o', none⟩ (fun e _ => absurd e hne)]; exact h
theorem keep3 {w : World} {b o b' : Nat} {vs : List Value} {x y z : Value} (hne : b' ≠ b) (h0 : w.cell? ⟨b', 0, none⟩ = some x) (h1 : w.cell? ⟨b', 1, none⟩ = some y) (h2 : w.cell? ⟨b', 2, none⟩ = some z) :
    (w.setCells b o vs).cell? ⟨b', 0, none⟩ = some x ∧ (w.setCells b o vs).cell? ⟨b', 1, none⟩ = some y ∧ (w.setCells b o vs).cell? ⟨b', 2, none⟩ = some z := ⟨cell_setCells hne h0, cell_setCells hne h1, cell_setCells hne h2⟩
/-- Behind the sector's making: the box, and that the sheets may be written. -/
theorem after_sec {W w2 : World} {base b5 n c off : Nat} {Z : Nat → Nat → Int} {y : Nat → Int} {x0 x1 x2 : Value} {bx : Nat} (hb : Below W.drew.heap.size W.drew w2) (h0 : W.cell? ⟨bx, 0, none⟩ = some x0) (h1 : W.cell? ⟨bx, 1, none⟩ = some x1) (h2 : W.cell? ⟨bx, 2, none⟩ = some x2)
    (ho : W.ownsRow base 241 48 (.slice (some ⟨b5, 0, none⟩) n c) n (shl Z n)) (hoff : off + 16 ≤ n * 48) :
    (w2.cell? ⟨bx, 0, none⟩ = some x0 ∧ w2.cell? ⟨bx, 1, none⟩ = some x1 ∧ w2.cell? ⟨bx, 2, none⟩ = some x2) ∧ w2.there b5 off (bvs y 16).length ∧ Below W.heap.size W w2 ∧ w2.ownsRow base 241 48 (.slice (some ⟨b5, 0, none⟩) n c) n (shl Z n) := by
  have hb' : Below W.heap.size W w2 := ((Below.refl _ _).drew).trans hb
  have ho2 := own_below ho hb'
  refine ⟨⟨cell_below h0 hb', cell_below h1 hb', cell_below h2 hb'⟩, ?_, hb', ho2⟩
  intro j hj
  rw [bvs_len] at hj
  refine ⟨?_, ho2.frozenAt _⟩
  rw [ho2.cellAt (off + j) (by omega), List.getElem?_eq_getElem (by rw [shl_len]; omega)]; rfl
set_option maxHeartbeats 2000000 in
theorem settle_any (D : Dk) (k3 : Nat) (F : Nat → Int) (a a' a3 : Option Addr) (cap cap' cap3 : Nat) (w : World) (hg : GoodD D) (hk : k3 ≤ 1048576) (hF : ∀ i, i < k3 → 0 ≤ F i ∧ F i < D.m) (h : DiskAt w a a' D) (h3 : IntsAt w a3 k3 F) :
    Calls Tryz.prog 165 #[.agg #[.slice a D.n cap, .slice a' D.m cap'], .slice a3 k3 cap3] w fun e w' => ∃ v c1, e = .returned (.agg #[.slice v D.n c1, .slice none 0 0]) ∧ Below w.heap.size w w' ∧ OwnP w' w.heap.size w'.heap.size v D.n (fun _ => 48) (stl D F k3) := by
  have hb0 : ∀ o1 o2, Below w.heap.size w ((w.alloc o1).alloc o2) := fun o1 o2 => ((Below.refl _ _).alloc (Nat.le_refl _) _).alloc (by simp) _
  have HG : Hid (GoodD D) := hg
  have HF : Hid (∀ i, i < k3 → 0 ≤ F i ∧ F i < D.m) := hF
  have HA : Hid (DiskAt w a a' D) := h
  have H3 : Hid (IntsAt w a3 k3 F) := h3
  have hm60 := hg.m
  have hn8 := hg.n8
  clear hg hF h h3
  go_enter Tryz.func165, Tryz.ntmps165
  go_wp2_with fail
  refine (sheetsOf_any D.n D.L D.Z a cap _ HG.out.n8 HG.out.L (HA.out.1.below (hb0 _ _))).mono ?_
  rintro e w1 ⟨v5, rfl, hb1, ho1⟩
  obtain ⟨b5, c5, rfl, hb50, hb51⟩ := ho1.form HG.out.n1
  have e2 : ∀ o1 o2 : Obj, ((w.alloc o1).alloc o2).heap.size = w.heap.size + 2 := fun _ _ => by simp
  rw [e2] at ho1 hb50
  obtain ⟨hcc, hff⟩ := bcell hb1
  have q0 : w1.cell? ⟨w.heap.size, 0, none⟩ = some (.slice a D.n cap) := by rw [hcc _ _ (by simp <;> omega)]; simp [go_sem]
  have q1 : w1.cell? ⟨w.heap.size, 1, none⟩ = some (.slice a' D.m cap') := by rw [hcc _ _ (by simp <;> omega)]; simp [go_sem]
  have r0 : w1.cell? ⟨w.heap.size + 1, 0, none⟩ = some (.slice none 0 0) := by rw [hcc _ _ (by simp <;> omega)]; simp [go_sem]
  have r1 : w1.cell? ⟨w.heap.size + 1, 1, none⟩ = some (.slice none 0 0) := by rw [hcc _ _ (by simp <;> omega)]; simp [go_sem]
  have fz : ∀ i, w1.frozen? ⟨w.heap.size + 1, i, none⟩ = false := fun i => by rw [hff _ _ (by simp <;> omega)]; simp [go_sem]
  have HB1 : Hid (Below w.heap.size w w1) := below_then (hb0 _ _) hb1
  have HO1 : Hid (w1.ownsRow (w.heap.size + 2) 241 48 (.slice (some ⟨b5, 0, none⟩) D.n c5) D.n (shl D.Z D.n)) := ho1
  have hz1 : w.heap.size + 2 ≤ w1.heap.size := by have := hb1.size; rw [e2] at this; exact this
  clear hcc hff hb1 ho1 hb0 e2
  go_wp2_with fail
  go_loopw [7, 8, 14] (fun _ _ i wr => ∃ k : Nat, k ≤ k3 ∧ i = .int .i64 k ∧ Hid (Below w.heap.size w wr) ∧ Hid (Below (w.heap.size + 2) w1 wr) ∧ Hid (wr.ownsRow (w.heap.size + 2) 241 48 (.slice (some ⟨b5, 0, none⟩) D.n c5) D.n (shl (stl D F k) D.n)) ∧ Hid (w1.heap.size ≤ wr.heap.size)) (fun _ _ i _ => k3 - (intOf i).toNat)
  case atStart => exact ⟨0, by omega, rfl, HB1, Below.refl _ _, HO1, Nat.le_refl _⟩
  case round =>
    obtain ⟨k, hk0, rfl, HB, HW, HO, HSZ⟩ := hrel
    by_cases hlt : k < k3
    · rcases H3.out.below HB.out with h | ⟨b3, o3, rfl, hl3, hc3⟩
      · omega
      have h3k := hc3 k hlt
      obtain ⟨f, hf⟩ : ∃ f : Nat, F k = f := ⟨(F k).toNat, by have := HF.out k hlt; omega⟩
      have hfm : f < D.m := by have := HF.out k hlt; omega
      rcases HA.out.2.below HB.out with h | ⟨b, off, rfl, hl, hc⟩
      · omega
      obtain ⟨h0, h1, ai, ci, h2, hy, hcap⟩ := hc f hfm
      rw [HG.out.M f hfm] at h2 hy
      obtain ⟨p, hp⟩ : ∃ p : Nat, D.P f = p := ⟨(D.P f).toNat, by have := HG.out.P f hfm; omega⟩
      obtain ⟨t, ht⟩ : ∃ t : Nat, D.T f = t := ⟨(D.T f).toNat, by have := HG.out.T f hfm; omega⟩
      have hpn : p < D.n := by have := HG.out.P f hfm; omega
      have ht3 : t < 3 := by have := HG.out.T f hfm; omega
      have HST : Hid (stl D F (k + 1) = lay (stl D F k) p t (D.Y f)) := by
        show lay (stl D F k) (D.P (F k).toNat) (D.T (F k).toNat) (D.Y (F k).toNat) = _
        rw [hf, Int.toNat_natCast, hp, ht]
      rw [hf] at h3k
      rw [hp] at h0
      rw [ht] at h1
      have HY : Hid (BytesAt wr ai 16 (D.Y f)) := hy
      have q1' : wr.cell? ⟨w.heap.size, 1, none⟩ = some (.slice (some ⟨b, off, none⟩) D.m cap') := (HW.out.cell (p := ⟨w.heap.size, 1, none⟩) (by show w.heap.size < w.heap.size + 2; omega)).trans q1
      have hlt' : (k : Int) < (k3 : Int) := by omega
      have hfm' : (f : Int) < (D.m : Int) := by omega
      have hpn' : (p : Int) < (D.n : Int) := by omega
      have ht3' : (t : Int) < 3 := by omega
      generalize hZ : stl D F k = Zk at *
      clear hc3 hc hy hcap hf hp ht
      go_wp2_with fail
      have HBX := Box3.new wr (.int .i64 (p : Int)) (.int .i64 (t : Int)) (.slice ai 16 ci) 136
      obtain ⟨s0, s1, s2⟩ := HBX
      have h1c : ∀ v ∈ bvs (D.Y f) 16, v.oneCell' = true := bvs_one _ _
      have hsz9 : (Tryz.prog.info? 238).map (·.size) = some (bvs (D.Y f) 16).length := by rw [size144, bvs_len]
      have hbne : wr.heap.size ≠ b5 := by have := (HO.out.lt b5 rfl).2; omega
      go_region_held3 (fun w' => w'.cell? ⟨wr.heap.size, 0, none⟩ = some (.int .i64 (p : Int)) ∧ w'.cell? ⟨wr.heap.size, 1, none⟩ = some (.int .i64 (t : Int)) ∧ w'.cell? ⟨wr.heap.size, 2, none⟩ = some (.slice ai 16 ci)) (first | exact keep3 hbne (by assumption) (by assumption) (by assumption) | go_keep)
        (first | (go_at_call 201; refine (sectorOf_any 16 (D.Y f) ai ci _ (by omega) (HY.out.below ((below_new _ _).drew))).mono ?_; rintro e w2 ⟨rfl, hb2⟩; obtain ⟨⟨t0, t1, t2⟩, hst, hbw, how⟩ := after_sec (off := p * 48 + t * 16) (y := D.Y f) hb2 s0 s1 s2 (HO.out.alloc _) (by omega)))
      have hb5w : w.heap.size + 2 ≤ b5 := hb50
      have hbA : Below wr.heap.size wr w2 := (below_new _ _).trans (hbw.mono (by rw [World.size_alloc]; omega))
      have HBA : Hid (Below wr.heap.size wr w2) := hbA
      have HOW : Hid (w2.ownsRow (w.heap.size + 2) 241 48 (.slice (some ⟨b5, 0, none⟩) D.n c5) D.n (shl Zk D.n)) := how
      clear hbw how hbA t0 t1 t2 s0 s1 s2 h1c hsz9 hst hb2 h3k h0 h1 h2 q1'
      go_wp2_with fail
      go_roundw
      case rel =>
        have hs1 := HB.out.size
        have hs2 := HSZ.out
        have hs3 := HBA.out.size
        have hw := Writes.setCells (lo := b5) (hi := b5 + 1) (Nat.le_refl _) (by omega) (bvs (D.Y f) 16) (p * 48 + t * 16) w2 (Writes.refl _ _ _)
        have hwb : Below (w.heap.size + 2) w2 (w2.setCells b5 (p * 48 + t * 16) (bvs (D.Y f) 16)) := ⟨hw.os, hw.tape, hw.output, hw.size, fun q hq => hw.block q (by omega) (by omega)⟩
        refine ⟨k + 1, hlt, by go_num, ?_, ?_, ?_, ?_⟩
        · exact (HB.out.trans (HBA.out.mono (by omega))).trans (hwb.mono (by omega))
        · exact (HW.out.trans (HBA.out.mono (by omega))).trans hwb
        · show World.ownsRow _ _ _ _ _ _ (shl (stl D F (k + 1)) D.n)
          rw [HST.out]; exact own_lay HOW.out hpn ht3
        · have := hw.size
          show w1.heap.size ≤ _
          omega
      case measure => simp [intOf]; omega
    · have hkn : k = k3 := by omega
      have HO2 : Hid (wr.ownsRow (w.heap.size + 2) 241 48 (.slice (some ⟨b5, 0, none⟩) D.n c5) D.n (shl (stl D F k3) D.n)) := by have h := HO.out; rw [hkn] at h; exact h
      have hb5l : b5 < wr.heap.size := by have := HSZ.out; omega
      have t0 : wr.cell? ⟨w.heap.size + 1, 0, none⟩ = some (.slice none 0 0) := (HW.out.cell (p := ⟨w.heap.size + 1, 0, none⟩) (by show w.heap.size + 1 < w.heap.size + 2; omega)).trans r0
      have t1 : wr.cell? ⟨w.heap.size + 1, 1, none⟩ = some (.slice none 0 0) := (HW.out.cell (p := ⟨w.heap.size + 1, 1, none⟩) (by show w.heap.size + 1 < w.heap.size + 2; omega)).trans r1
      have tf : ∀ i, wr.frozen? ⟨w.heap.size + 1, i, none⟩ = false := fun i => (HW.out.frozen (p := ⟨w.heap.size + 1, i, none⟩) (by show w.heap.size + 1 < w.heap.size + 2; omega)).trans (fz i)
      have hsw : w.heap.size + 2 ≤ wr.heap.size := by have := HSZ.out; omega
      clear hkn HO q0 q1 r0 r1 fz
      go_wp2_with fail
      refine (pagesOf_any D.n (stl D F k3) b5 c5 wr HG.out.n8 hb5l (shl_range HO2.out)).mono ?_
      rintro e w3 ⟨v3, rfl, hb3, hap⟩
      obtain ⟨ap, cp, rfl, -, hop⟩ := hap.own
      have u0 := cell_below t0 hb3
      have u1 := cell_below t1 hb3
      have uf : ∀ i, w3.frozen? ⟨w.heap.size + 1, i, none⟩ = false := fun i => (hb3.frozen (p := ⟨w.heap.size + 1, i, none⟩) (by show w.heap.size + 1 < _; omega)).trans (tf i)
      have HB3 : Hid (Below w.heap.size w w3) := below_then HB.out hb3
      have HOP : Hid (OwnP w3 wr.heap.size w3.heap.size ap D.n (fun _ => 48) (stl D F k3)) := hop
      have hs3 := hb3.size
      clear hb3 hap hop t0 t1 tf
      go_wp2_with fail
      refine bodyPost_ret (v := .agg #[.slice ap D.n cp, .slice none 0 0]) (by simp [results, Tryz.results165, go_sem, *]) rfl ⟨ap, cp, rfl, ?_, ?_⟩
      · repeat (first | exact HB3.out | refine Below.setCell ?_ (by first | omega | (simp <;> omega)) _)
      · have hw : ∀ w7, Writes (w.heap.size + 1) (w.heap.size + 2) w3 w7 → w7.heap.size = w3.heap.size → OwnP w7 w.heap.size w7.heap.size ap D.n (fun _ => 48) (stl D F k3) := fun w7 h e => by
          rw [e]
          exact (HOP.out.writes h (.inr (by omega))).wide (by omega) (Nat.le_refl _) (by omega)
        refine hw _ ?_ (by simp [World.setCell])
        repeat (first | exact Writes.refl _ _ _ | refine Writes.setCell ?_ (by first | omega | (simp <;> omega)) (by first | omega | (simp <;> omega)) _)
/-- The disk with the writes at k places done, none left. -/
def syD (D : Dk) (F : Nat → Int) (k : Nat) : Dk := ⟨D.n, fun _ => 48, stl D F k, 0, fun _ => 0, fun _ => 0, fun _ => 0, fun _ _ => 0⟩
def idF (i : Nat) : Int := i
theorem ownD_sy {w : World} {lo hi : Nat} {a a' : Option Addr} {D : Dk} {F : Nat → Int} {k : Nat} (h : OwnP w lo hi a D.n (fun _ => 48) (stl D F k)) (hl : lo ≤ hi) : OwnD w lo hi a a' (syD D F k) := by
  have h0 := h.1
  exact ⟨h0, lo, hi, lo, lo, Nat.le_refl _, Nat.le_refl _, Nat.le_refl _, hl, .inr (Nat.le_refl _), h, ⟨by omega, .inl rfl⟩⟩
theorem keep_sy {w w4 : World} {x y z c0 c1 : Value} (h : Below w.heap.size w w4 ∧ w4.cell? ⟨w.heap.size, 0, none⟩ = some c0 ∧ w4.cell? ⟨w.heap.size, 1, none⟩ = some c1) :
    (Below w.heap.size w (((w4.setCell ⟨w.heap.size + 1, 0, none⟩ x).setCell ⟨w.heap.size + 1, 1, none⟩ y).setCell ⟨w.heap.size + 1, 2, none⟩ z) ∧ (((w4.setCell ⟨w.heap.size + 1, 0, none⟩ x).setCell ⟨w.heap.size + 1, 1, none⟩ y).setCell ⟨w.heap.size + 1, 2, none⟩ z).cell? ⟨w.heap.size, 0, none⟩ = some c0 ∧ (((w4.setCell ⟨w.heap.size + 1, 0, none⟩ x).setCell ⟨w.heap.size + 1, 1, none⟩ y).setCell ⟨w.heap.size + 1, 2, none⟩ z).cell? ⟨w.heap.size, 1, none⟩ = some c1) := by
  obtain ⟨h0, h1, h2⟩ := h
  have e : ∀ b o v, b ≠ w.heap.size + 1 → w4.cell? ⟨b, o, none⟩ = some v → (((w4.setCell ⟨w.heap.size + 1, 0, none⟩ x).setCell ⟨w.heap.size + 1, 1, none⟩ y).setCell ⟨w.heap.size + 1, 2, none⟩ z).cell? ⟨b, o, none⟩ = some v := fun b o v hb h => by
    rw [setB (fun q => hb q.symm), setB (fun q => hb q.symm), setB (fun q => hb q.symm)]; exact h
  refine ⟨?_, e _ _ _ (by omega) h1, e _ _ _ (by omega) h2⟩
  exact ((h0.setCell (p := ⟨w.heap.size + 1, 0, none⟩) (by show w.heap.size ≤ w.heap.size + 1; omega) x).setCell (p := ⟨w.heap.size + 1, 1, none⟩) (by show w.heap.size ≤ w.heap.size + 1; omega) y).setCell (p := ⟨w.heap.size + 1, 2, none⟩) (by show w.heap.size ≤ w.heap.size + 1; omega) z
/-- Behind a call: the two boxes. -/
theorem after_c {w w1 w2 : World} {b0 b2 : Nat} {x0 x1 z0 z1 z2 : Value} (hB : Below w.heap.size w w1) (hb : Below w1.heap.size w1 w2) (h0 : w1.cell? ⟨b0, 0, none⟩ = some x0) (h1 : w1.cell? ⟨b0, 1, none⟩ = some x1)
    (h3 : w1.cell? ⟨b2, 0, none⟩ = some z0) (h4 : w1.cell? ⟨b2, 1, none⟩ = some z1) (h5 : w1.cell? ⟨b2, 2, none⟩ = some z2) (hf : ∀ i, w1.frozen? ⟨b2, i, none⟩ = false) :
    (Below w.heap.size w w2 ∧ w2.cell? ⟨b0, 0, none⟩ = some x0 ∧ w2.cell? ⟨b0, 1, none⟩ = some x1) ∧ (w2.cell? ⟨b2, 0, none⟩ = some z0 ∧ w2.cell? ⟨b2, 1, none⟩ = some z1 ∧ w2.cell? ⟨b2, 2, none⟩ = some z2 ∧ ∀ i, w2.frozen? ⟨b2, i, none⟩ = false) := by
  have hl : b2 < w1.heap.size := Go.block_lt_of_cell h3
  exact ⟨⟨below_then hB hb, cell_below h0 hb, cell_below h1 hb⟩, cell_below h3 hb, cell_below h4 hb, cell_below h5 hb, fun i => (hb.frozen (p := ⟨b2, i, none⟩) hl).trans (hf i)⟩
theorem drew_below {w1 w2 : World} (hb : Below w1.drew.heap.size w1.drew w2) : Below w1.heap.size w1 w2 := ((Below.refl _ _).drew).trans hb
set_option maxHeartbeats 1600000 in
theorem implSync_any (D : Dk) (a a' : Option Addr) (cap cap' : Nat) (w : World) (hs : Small D) (h : DiskAt w a a' D) :
    Calls Tryz.prog 102 #[.agg #[.slice a D.n cap, .slice a' D.m cap']] w (DRes (df D) (syD D idF D.m) w) := by
  have hb0 : ∀ o1 o2, Below w.heap.size w ((w.alloc o1).alloc o2) := fun o1 o2 => ((Below.refl _ _).alloc (Nat.le_refl _) _).alloc (by simp) _
  have HS : Hid (Small D) := hs
  have HA : Hid (DiskAt w a a' D) := h
  clear hs h
  by_cases hf : df D = 0
  · have HG : Hid (GoodD D) := goodD_of hf
    have HFI : Hid (∀ i, i < D.m → 0 ≤ idF i ∧ idF i < D.m) := fun i hi => ⟨by unfold idF; omega, by unfold idF; omega⟩
    have hm60 := HG.out.m
    go_enter Tryz.func102, Tryz.ntmps102
    go_wp2_with fail
    refine (implDf_any D a a' cap cap' _ HS.out (HA.out.below (hb0 _ _))).mono ?_
    rintro e w1 ⟨rfl, hb1⟩
    rw [hf]
    obtain ⟨hcc, hff⟩ := bcell hb1
    have hz : w.heap.size + 1 < w1.heap.size := by have := hb1.size; simp at this; omega
    have q0 : w1.cell? ⟨w.heap.size, 0, none⟩ = some (.slice a D.n cap) := by rw [hcc _ _ (by simp <;> omega)]; simp [go_sem]
    have q1 : w1.cell? ⟨w.heap.size, 1, none⟩ = some (.slice a' D.m cap') := by rw [hcc _ _ (by simp <;> omega)]; simp [go_sem]
    have r0 : w1.cell? ⟨w.heap.size + 1, 0, none⟩ = some (.int .i64 0) := by rw [hcc _ _ (by simp <;> omega)]; simp [go_sem]
    have r1 : w1.cell? ⟨w.heap.size + 1, 1, none⟩ = some (.slice none 0 0) := by rw [hcc _ _ (by simp <;> omega)]; simp [go_sem]
    have r2 : w1.cell? ⟨w.heap.size + 1, 2, none⟩ = some (.slice none 0 0) := by rw [hcc _ _ (by simp <;> omega)]; simp [go_sem]
    have fz : ∀ i, w1.frozen? ⟨w.heap.size + 1, i, none⟩ = false := fun i => by rw [hff _ _ (by simp <;> omega)]; simp [go_sem]
    have HB1 : Hid (Below w.heap.size w w1) := below_then (hb0 _ _) hb1
    clear hcc hff hb1 hb0
    go_wp2_with fail
    have hb9 : Below w.heap.size w w1.drew := HB1.out.drew
    go_region_held3 (fun w' => Below w.heap.size w w' ∧ w'.cell? ⟨w.heap.size, 0, none⟩ = some (.slice a D.n cap) ∧ w'.cell? ⟨w.heap.size, 1, none⟩ = some (.slice a' D.m cap')) (first | exact keep_sy ‹_› | go_keep)
      (first | (go_at_call 166; refine (loosePlaces_any D.n D.m a a' cap cap' w1.drew hm60).mono ?_; rintro e w2 ⟨vp, cvp, rfl, hb2, hin⟩; obtain ⟨⟨s0, s1, s2⟩, s3, s4, s5, s6⟩ := after_c HB1.out (drew_below hb2) q0 q1 r0 r1 r2 fz) | (go_at_call 165; refine (settle_any D D.m idF a a' vp cap cap' cvp w2 HG.out (by omega) HFI.out (HA.out.below s0) hin).mono ?_; rintro e w3 ⟨ap, cp, rfl, hb3, hop⟩; obtain ⟨⟨t0, t1, t2⟩, t3, t4, t5, t6⟩ := after_c s0 hb3 s1 s2 s3 s4 s5 s6))
    have hz2 : w1.heap.size ≤ w2.heap.size := hb2.size
    have hz3 : w2.heap.size ≤ w3.heap.size := hb3.size
    have HB3 : Hid (Below w.heap.size w w3) := t0
    have HOP : Hid (OwnP w3 w2.heap.size w3.heap.size ap D.n (fun _ => 48) (stl D idF D.m)) := hop
    clear hop hb3 hb2 hin s0 s1 s2 s3 s4 s5 s6 t0 t1 t2 q0 q1 r0 r1 r2 fz hb9
    go_wp2_with fail
    refine bodyPost_ret (v := .agg #[.int .i64 0, .slice ap D.n cp, .slice none 0 0]) (by simp [results, Tryz.results102, go_sem, *]) rfl ?_
    rw [hf]
    refine ⟨ap, none, cp, 0, rfl, ?_, ?_⟩
    · repeat (first | exact HB3.out | refine Below.setCell ?_ (by first | omega | (simp <;> omega)) _)
    · have hw : ∀ w7, Writes (w.heap.size + 1) (w.heap.size + 2) w3 w7 → w7.heap.size = w3.heap.size → OwnD w7 w.heap.size w7.heap.size ap none (syD D idF D.m) := fun w7 h e => by
        rw [e]
        exact ownD_sy ((HOP.out.writes h (.inr (by omega))).wide (by omega) (Nat.le_refl _) (by omega)) (by omega)
      refine hw _ ?_ (by simp [World.setCell])
      repeat (first | exact Writes.refl _ _ _ | refine Writes.setCell ?_ (by first | omega | (simp <;> omega)) (by first | omega | (simp <;> omega)) _)
  · have hd : (df D != 0) = true := by simpa using hf
    have HNZ : Hid (df D ≠ 0) := hf
    go_enter Tryz.func102, Tryz.ntmps102
    go_wp2_with fail
    refine (implDf_any D a a' cap cap' _ HS.out (HA.out.below (hb0 _ _))).mono ?_
    rintro e w1 ⟨rfl, hb1⟩
    obtain ⟨hcc, hff⟩ := bcell hb1
    generalize df D = c at *
    clear hf
    go_wp2_with fail
    refine bodyPost_ret (v := .agg #[.int .i64 c, .slice none 0 0, .slice none 0 0]) (by simp [results, Tryz.results102, go_sem, hcc]) rfl ?_
    refine dres_bad ?_ HNZ.out
    repeat (first | exact below_then (hb0 _ _) hb1 | refine Below.setCell ?_ (by first | omega | (simp <;> omega)) _)
end Go.Proofs.YtaokclhcmgbgnaaGreat
