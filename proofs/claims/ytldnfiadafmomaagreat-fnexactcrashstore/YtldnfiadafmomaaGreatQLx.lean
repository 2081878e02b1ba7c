/- CrashLog: what it answers; spec.l3Crash. -/
import Derived.Test.YtldnfiadafmomaaGreatQLn
namespace Go.Proofs.YtldnfiadafmomaaGreat
open Go.RowKit Go.Deep
set_option linter.unusedVariables false
set_option maxRecDepth 20000

theorem bool_or3 (b : Bool) : b = true ∨ b = false := by cases b <;> simp
/-- A log of which only the first k of the loose bytes are kept. -/
def cutL (L : Lo) (k : Nat) : Lo := ⟨L.n1, L.z1, k, L.z2⟩
theorem BytesAt.cut {w : World} {a : Option Addr} {n k : Nat} {z : Nat → Int} (h : BytesAt w a n z) (hk : k ≤ n) : BytesAt w a k z := by
  rcases h with h | ⟨b, off, h1, h2, h3⟩
  · exact .inl (by omega)
  · exact .inr ⟨b, off, h1, h2, fun i hi => h3 i (by omega)⟩
theorem LogAt.cut {w : World} {a1 a2 : Option Addr} {L : Lo} {k : Nat} (h : LogAt w a1 a2 L) (hk : k ≤ L.n2) : LogAt w a1 a2 (cutL L k) := ⟨h.1, h.2.cut hk⟩
theorem LogByt.cut {L : Lo} {k : Nat} (h : LogByt L) (hk : k ≤ L.n2) : LogByt (cutL L k) := ⟨h.p, fun i hi => h.q i (by have : i < k := hi; omega)⟩
/-- How many records are left. -/
def clM (L : Lo) (k : Nat) : Nat := cnt (aZ (cutL L k)) (L.n1 + k)
theorem clM_le (L : Lo) (k : Nat) : 13 * clM L k ≤ L.n1 + k := cnt_le _ _
def clC (L : Lo) (x : Int) : Int := if lgC L = 0 then (if inB x 0 (L.n2 : Int) = true then 0 else 3) else lgC L
def clS (L : Lo) (x : Int) : Int := if clC L x = 0 then (clM L x.toNat : Int) else 0
def clL (L : Lo) (x : Int) : Lo := if clC L x = 0 then ⟨13 * clM L x.toNat, aZ (cutL L x.toNat), 0, fun _ => 0⟩ else ⟨0, fun _ => 0, 0, fun _ => 0⟩
theorem cl_bad {L : Lo} {x : Int} (h : lgC L ≠ 0) : clC L x = lgC L ∧ clS L x = 0 ∧ clL L x = ⟨0, fun _ => 0, 0, fun _ => 0⟩ := by
  have e : clC L x = lgC L := if_neg h
  exact ⟨e, if_neg (by rw [e]; exact h), if_neg (by rw [e]; exact h)⟩
theorem cl_range {L : Lo} {x : Int} (h : lgC L = 0) (hx : inB x 0 (L.n2 : Int) = false) : clC L x = 3 ∧ clS L x = 0 ∧ clL L x = ⟨0, fun _ => 0, 0, fun _ => 0⟩ := by
  have e : clC L x = 3 := by unfold clC; rw [if_pos h, if_neg (by simp [hx])]
  exact ⟨e, if_neg (by rw [e]; omega), if_neg (by rw [e]; omega)⟩
theorem cl_ok {L : Lo} {k : Nat} (h : lgC L = 0) (hx : inB (k : Int) 0 (L.n2 : Int) = true) : clC L k = 0 ∧ clS L k = (clM L k : Int) ∧ clL L k = ⟨13 * clM L k, aZ (cutL L k), 0, fun _ => 0⟩ := by
  have e : clC L k = 0 := by unfold clC; rw [if_pos h, if_pos hx]
  refine ⟨e, ?_, ?_⟩
  · unfold clS; rw [if_pos e, Int.toNat_natCast]
  · unfold clL; rw [if_pos e, Int.toNat_natCast]
theorem lres_none {c : Int} {w w' : World} (hb : Below w.heap.size w w') : LRes c 0 ⟨0, fun _ => 0, 0, fun _ => 0⟩ w (.returned (.agg #[.int .i64 c, .int .i64 0, .slice none 0 0, .slice none 0 0])) w' :=
  ⟨none, none, 0, 0, rfl, hb, Nat.le_refl _, w.heap.size, w.heap.size, w.heap.size, w.heap.size, Nat.le_refl _, hb.size, Nat.le_refl _, hb.size, .inl (Nat.le_refl _), ⟨hb.size, .inl rfl⟩, ⟨hb.size, .inl rfl⟩⟩
theorem lres_some {s : Int} {n : Nat} {z : Nat → Int} {w wq w' : World} {a : Option Addr} {cap lo : Nat} (hB : Below w.heap.size w wq) (hlo : w.heap.size + 2 ≤ lo) (ho : OwnB wq lo wq.heap.size a n z) (hw : Writes (w.heap.size + 1) (w.heap.size + 2) wq w') (hs : w'.heap.size = wq.heap.size) :
    LRes 0 s ⟨n, z, 0, fun _ => 0⟩ w (.returned (.agg #[.int .i64 0, .int .i64 s, .slice a n cap, .slice none 0 0])) w' := by
  have hz := hB.size
  have h2 := (ho.writes hw (.inr hlo)).wide (lo' := w.heap.size) (hi' := wq.heap.size) (by omega) (Nat.le_refl _) (by omega)
  refine ⟨a, none, cap, 0, rfl, Writes.below hB hw (by omega), ?_⟩
  rw [hs]
  exact ⟨by omega, w.heap.size, wq.heap.size, w.heap.size, w.heap.size, Nat.le_refl _, Nat.le_refl _, Nat.le_refl _, hz, .inr (Nat.le_refl _), h2, ⟨by omega, .inl rfl⟩⟩
/-- Behind the append to an empty list that was just made. -/
theorem below_grow0 {W w6 : World} {o : Obj} (hg : (W.alloc o).drew.grownBy w6 (some W.heap.size)) : Below W.heap.size W w6 :=
  ((below_new W o).drew).grown hg (by show _ ≤ (W.alloc o).heap.size; rw [World.size_alloc]; omega) (fun q hq => by simp at hq; omega)
theorem own_made0 (W : World) : (W.alloc (.cells #[] 5)).drew.ownsRow W.heap.size 5 1 (.slice (some ⟨W.heap.size, 0, none⟩) 0 0) ([] : List Int).length (bl []) :=
  World.ownsRow_lit (base := W.heap.size) (size := 1) (e := 5) W #[] 0 (Nat.le_refl _) (by unfold maxLen; omega) rfl
theorem ownB_zL {w : World} {lo hi u : Nat} {a : Option Addr} {z : Nat → Int} (h : OwnB w lo hi a u (zOf (zL z u))) : OwnB w lo hi a u z := by
  obtain ⟨h0, h1 | ⟨b, off, ha, hl, hh, hcl, hfr⟩⟩ := h
  · exact ⟨h0, .inl h1⟩
  · exact ⟨h0, .inr ⟨b, off, ha, hl, hh, fun i hi => by rw [hcl i hi]; unfold zOf; rw [zL_get z u i hi], hfr⟩⟩
theorem ownB_row_zL {w : World} {base u : Nat} {v : Value} {z : Nat → Int} (h : w.ownsRow base 5 1 v ([] ++ zL z u).length (bl ([] ++ zL z u))) : ∃ a cap, v = .slice a u cap ∧ OwnB w base w.heap.size a u z := by
  rw [List.nil_append] at h
  obtain ⟨a, cap, e, h2⟩ := ownB_of_row h
  rw [zL_len] at h2 e
  exact ⟨a, cap, e, ownB_zL h2⟩
theorem bytes_of_cond {w : World} {n b : Nat} {ra : Option Addr} {z : Nat → Int} (h : n = 0 ∨ ra = some ⟨b, 0, none⟩ ∧ b < w.heap.size ∧ BA w b 0 n z) : BytesAt w ra n z := by
  rcases h with h | ⟨h1, h2, h3⟩
  · exact .inl h
  · exact .inr ⟨b, 0, h1, h2, h3⟩
set_option maxHeartbeats 4000000 in
theorem l3Crash_any (L : Lo) (a1 a2 : Option Addr) (c1 c2 k : Nat) (w : World) (hs : L.n1 + L.n2 ≤ 4000) (hk : k ≤ L.n2) (hcap : L.n2 ≤ c2) (hby : LogByt L) (h : LogAt w a1 a2 L) :
    Calls Tryz.prog 51 #[.agg #[.slice a1 L.n1 c1, .slice a2 L.n2 c2], .int .i64 k] w fun e w' => ∃ ra rc, e = .returned (.agg #[.slice ra (13 * clM L k) rc, .slice none 0 0]) ∧ Below w.heap.size w w' ∧ OwnB w' w.heap.size w'.heap.size ra (13 * clM L k) (aZ (cutL L k)) := by
  have HA : Hid (LogAt w a1 a2 (cutL L k)) := h.cut hk
  have HY : Hid (LogByt (cutL L k)) := hby.cut hk
  have hkc : (k : Int) ≤ (c2 : Int) := by omega
  have hk0 : (0 : Int) ≤ (k : Int) := by omega
  have HBX : Hid (∀ o1 o2 : Obj, o1 = .cells #[.slice a1 L.n1 c1, .slice a2 L.n2 c2] 38 → o2 = .cells #[.slice none 0 0, .slice none 0 0] 38 → Box2 ((w.alloc o1).alloc o2) w.heap.size (.slice a1 L.n1 c1) (.slice a2 L.n2 c2) ∧ Box2 ((w.alloc o1).alloc o2) (w.heap.size + 1) (.slice none 0 0) (.slice none 0 0) ∧ (∀ i, ((w.alloc o1).alloc o2).frozen? ⟨w.heap.size + 1, i, none⟩ = false) ∧ Below w.heap.size w ((w.alloc o1).alloc o2) ∧ ((w.alloc o1).alloc o2).heap.size = w.heap.size + 2) := by
    rintro o1 o2 rfl rfl
    exact ⟨⟨by simp [go_sem], by simp [go_sem]⟩, ⟨by simp [go_sem], by simp [go_sem]⟩, fun i => by simp [go_sem], ((Below.refl _ _).alloc (Nat.le_refl _) _).alloc (by simp) _, by simp⟩
  have hL2 : L.n1 + k ≤ 4000 := by omega
  clear h hby
  go_enter Tryz.func51, Tryz.ntmps51
  go_upto_region 1 with fail
  obtain ⟨W, hW⟩ : ∃ x, x = (w.alloc (.cells #[.slice a1 L.n1 c1, .slice a2 L.n2 c2] 38)).alloc (.cells #[.slice none 0 0, .slice none 0 0] 38) := ⟨_, rfl⟩
  obtain ⟨hb1, hb2, hbf, hbw, hbs⟩ := HBX.out _ _ rfl rfl
  rw [← hW]
  rw [← hW] at hb1 hb2 hbf hbw hbs
  clear hW HBX
  have HBW : Hid (Below w.heap.size w W) := hbw
  have HR2 : Hid (Box2 W (w.heap.size + 1) (.slice none 0 0) (.slice none 0 0)) := hb2
  have HRF : Hid (∀ i, W.frozen? ⟨w.heap.size + 1, i, none⟩ = false) := hbf
  have HWS : Hid (W.heap.size = w.heap.size + 2) := hbs
  obtain ⟨q0, q1⟩ := hb1
  have p0 := fun o : Obj => cell_alloc q0 o
  have p1 := fun o : Obj => cell_alloc q1 o
  have HBA1 : Hid (∀ o : Obj, BytesAt (W.alloc o).drew a1 L.n1 L.z1) := fun o => (HA.out.1.below hbw).below ((below_new W o).drew)
  have HBA2 : Hid (BytesAt W a2 k L.z2) := HA.out.2.below hbw
  have HL1 : Hid (([] : List Int).length + L.n1 ≤ 100000) := by show ([] : List Int).length + L.n1 ≤ 100000; simp; omega
  have HL2 : Hid (([] ++ zL L.z1 L.n1).length + k ≤ 100000) := by show ([] ++ zL L.z1 L.n1).length + k ≤ 100000; simp [zL_len]; omega
  have HBS : Hid (∀ o : Obj, W.heap.size ≤ (W.alloc o).drew.heap.size) := fun o => by show _ ≤ (W.alloc o).heap.size; rw [World.size_alloc]; omega
  have hfx : W.frozen? ⟨w.heap.size, 0, none⟩ = W.frozen? ⟨w.heap.size, 0, none⟩ := rfl
  clear hbw hb2 hbf hbs hfx
  go_region_law (first | (refine step_appZ _ rfl (.tmp 8) (.tmp 10) rfl W.heap.size (.slice (some ⟨W.heap.size, 0, none⟩) 0 0) [] rfl (own_made0 W) a1 L.n1 c1 L.z1 rfl (HBA1.out _) HL1.out (HBS.out _) ?_; intro v6 w6 ho6 hg6; have hB6 := below_grow0 hg6; have s0 := cell_below q0 hB6; have s1 := cell_below q1 hB6; have hba2 := HBA2.out.below hB6) | (refine step_appZ _ rfl (.tmp 11) (.tmp 15) rfl W.heap.size v6 ([] ++ zL L.z1 L.n1) rfl ho6 a2 k c2 L.z2 rfl hba2 HL2.out hB6.size ?_; intro v9 w9 ho9 hg9; have HB9 : Hid (Below W.heap.size W w9) := hB6.grown hg9 hB6.size (fun q hq => (ho6.lt q hq).1); have HO9 : Hid (w9.ownsRow W.heap.size 5 1 v9 (([] ++ zL L.z1 L.n1) ++ zL L.z2 k).length (bl (([] ++ zL L.z1 L.n1) ++ zL L.z2 k))) := ho9))
  all_goals
    clear ho6 hg6 hba2 hB6 ho9 hg9 s0 s1
    have hall : AllAt w9 W.heap.size v9 (cutL L k) := allAt_of HO9.out
    obtain ⟨ra, rc, rfl, hrc, ho, hcond⟩ := hall
    obtain ⟨b, hcd⟩ := AllAt.cond (rc := rc) hcond
    have HCD : Hid (L.n1 + k = 0 ∨ ra = some ⟨b, 0, none⟩ ∧ b < w9.heap.size ∧ BA w9 b 0 (L.n1 + k) (aZ (cutL L k))) := hcd
    have HRC : Hid (L.n1 + k ≤ rc) := hrc
    clear hcd hcond ho hrc HO9
    go_wp2_with fail
    refine (l3Recs_any (L.n1 + k) (aZ (cutL L k)) ra b 0 rc w9 HRC.out (by omega) (aZ_byt HY.out) HCD.out).mono ?_
    rintro e w10 ⟨rb, rcp, rfl, hb10, -⟩
    obtain ⟨u, HU⟩ : ∃ u, Hid (13 * clM L k = u) := ⟨_, rfl⟩
    have hue : 13 * (cnt (aZ (cutL L k)) (L.n1 + k) : Int) = (u : Int) := by have := HU.out; unfold clM at this; omega
    have hule : u ≤ L.n1 + k := by rw [← HU.out]; exact clM_le L k
    have hrc := HRC.out
    have hu1 : (u : Int) ≤ (rc : Int) := by omega
    have hu0 : (0 : Int) ≤ (u : Int) := by omega
    have HBU : Hid (∀ o : Obj, BytesAt (w10.alloc o) ra u (aZ (cutL L k))) := fun o => (((bytes_of_cond HCD.out).cut hule).below hb10).below (below_new _ _)
    have HB10 : Hid (Below W.heap.size W w10) := below_then HB9.out hb10
    have HLU : Hid (([] : List Int).length + u ≤ 100000) := by show ([] : List Int).length + u ≤ 100000; simp; omega
    rw [hue]
    clear hb10 HCD HB9 hue p0 p1 q0 q1
    go_wp2_with (at_builtin; refine wpList_appB _ rfl (.tmp 22) (.tmp 25) rfl w10.heap.size (.slice (some ⟨w10.heap.size, 0, none⟩) 0 0) [] rfl (World.ownsRow_made w10 #[] 0 (Nat.le_refl _) (by unfold maxLen; omega) rfl) ra u rc (aZ (cutL L k)) rfl (HBU.out _) HLU.out (by simp) ?_)
    intro v12 w12 ho12 hg12
    have hB12 : Below w10.heap.size w10 w12 := (below_new w10 _).grown hg12 (by simp) (fun q hq => by simp [Value.ownBlock] at hq; omega)
    obtain ⟨xa, xc, rfl, hown⟩ := ownB_row_zL ho12
    have HB12 : Hid (Below W.heap.size W w12) := below_then HB10.out hB12
    have hz10 := HB10.out.size
    have hWS := HWS.out
    have HO12 : Hid (OwnB w12 (w.heap.size + 2) w12.heap.size xa u (aZ (cutL L k))) := hown.wide (by omega) (Nat.le_refl _) (Nat.le_refl _)
    obtain ⟨r0, r1⟩ := HR2.out.below HB12.out
    have rf : ∀ i, w12.frozen? ⟨w.heap.size + 1, i, none⟩ = false := fun i => ((bcell HB12.out).2 _ _ (by omega)).trans (HRF.out i)
    clear ho12 hg12 hB12 hown HBU
    go_wp2_with fail
    refine bodyPost_ret (v := .agg #[.slice xa u xc, .slice none 0 0]) (by simp [results, Tryz.results51, go_sem, *]) rfl ?_
    have hw : ∀ w7, Writes (w.heap.size + 1) (w.heap.size + 2) w12 w7 → w7.heap.size = w12.heap.size → Below w.heap.size w w7 ∧ OwnB w7 w.heap.size w7.heap.size xa u (aZ (cutL L k)) := fun w7 h7 e7 => by
      refine ⟨Writes.below (below_then HBW.out HB12.out) h7 (by omega), ?_⟩
      rw [e7]
      exact (HO12.out.writes h7 (.inr (Nat.le_refl _))).wide (by omega) (Nat.le_refl _) (by omega)
    rw [HU.out]
    refine ⟨xa, xc, rfl, ?_⟩
    refine hw _ ?_ (by simp [World.setCell])
    repeat (first | exact Writes.refl _ _ _ | refine Writes.setCell ?_ (by first | omega | (simp <;> omega)) (by first | omega | (simp <;> omega)) _)
end Go.Proofs.YtldnfiadafmomaaGreat
