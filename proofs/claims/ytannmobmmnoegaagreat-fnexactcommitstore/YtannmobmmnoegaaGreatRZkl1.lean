/- A log that has one more record: its numbers (out of Tlp and Trp). -/
import Derived.Test.YtannmobmmnoegaaGreatQAil
import Derived.Test.YtannmobmmnoegaaGreatQAm
import Derived.Test.YtannmobmmnoegaaGreatQAn
import Derived.Test.YtannmobmmnoegaaGreatQAp
import Derived.Test.YtannmobmmnoegaaGreatQBase
import Derived.Test.YtannmobmmnoegaaGreatQCca
import Derived.Test.YtannmobmmnoegaaGreatQCl
import Derived.Test.YtannmobmmnoegaaGreatQDf
import Derived.Test.YtannmobmmnoegaaGreatQDg
import Derived.Test.YtannmobmmnoegaaGreatQDk
import Derived.Test.YtannmobmmnoegaaGreatQFault
import Derived.Test.YtannmobmmnoegaaGreatQJa
import Derived.Test.YtannmobmmnoegaaGreatQLcp
import Derived.Test.YtannmobmmnoegaaGreatQLh
import Derived.Test.YtannmobmmnoegaaGreatQLm
import Derived.Test.YtannmobmmnoegaaGreatQLn
import Derived.Test.YtannmobmmnoegaaGreatQPk
import Derived.Test.YtannmobmmnoegaaGreatQPr
import Derived.Test.YtannmobmmnoegaaGreatQRf
import Derived.Test.YtannmobmmnoegaaGreatQSl1
import Derived.Test.YtannmobmmnoegaaGreatQSl2
import Derived.Test.YtannmobmmnoegaaGreatQSl3
import Derived.Test.YtannmobmmnoegaaGreatQSrf
import Derived.Test.YtannmobmmnoegaaGreatQSrg
import Derived.Test.YtannmobmmnoegaaGreatQSrh
import Derived.Test.YtannmobmmnoegaaGreatQSri
import Derived.Test.YtannmobmmnoegaaGreatQSum
import Derived.Test.YtannmobmmnoegaaGreatQUp
import Derived.Test.YtannmobmmnoegaaGreatQUr
import Derived.Test.YtannmobmmnoegaaGreatQUv
import Derived.Test.YtannmobmmnoegaaGreatQUw
import Derived.Test.YtannmobmmnoegaaGreatQWae
import Derived.Test.YtannmobmmnoegaaGreatQWai
import Derived.Test.YtannmobmmnoegaaGreatQZdb
import Derived.Test.YtannmobmmnoegaaGreatQZeb
import Derived.Test.YtannmobmmnoegaaGreatQZec
import Derived.Test.YtannmobmmnoegaaGreatQZed
import Derived.Test.YtannmobmmnoegaaGreatQZee
import Derived.Test.YtannmobmmnoegaaGreatQZef
import Derived.Test.YtannmobmmnoegaaGreatQZeh
import Derived.Test.YtannmobmmnoegaaGreatQZei
import Derived.Test.YtannmobmmnoegaaGreatQZen
import Derived.Test.YtannmobmmnoegaaGreatQZep
import Derived.Test.YtannmobmmnoegaaGreatQZeq
import Derived.Test.YtannmobmmnoegaaGreatQZer
import Derived.Test.YtannmobmmnoegaaGreatQZes
import Derived.Test.YtannmobmmnoegaaGreatQZet
import Derived.Test.YtannmobmmnoegaaGreatQZew
import Derived.Test.YtannmobmmnoegaaGreatQZfd
import Derived.Test.YtannmobmmnoegaaGreatQZha
import Derived.Test.YtannmobmmnoegaaGreatQZpg
import Derived.Test.YtannmobmmnoegaaGreatQZsa
namespace Go.Proofs.YtannmobmmnoegaaGreat
open Go.RowKit Go.Deep
set_option linter.unusedVariables false
set_option maxRecDepth 20000
open Go.ChangeShapes Go.WideShapes Go.ChangeAt Go.RowKit Go.Deep Go.Joins
set_option linter.unusedSimpArgs false

theorem ivL_mem (F : Nat → Int) (n : Nat) (v : Int) : v ∈ ivL F n ↔ ∃ i, i < n ∧ F i = v := by simp [ivL]
theorem AllAt.own {w : World} {base : Nat} {v : Value} {L : Lo} (h : AllAt w base v L) : ∃ ra rc, v = .slice ra (L.n1 + L.n2) rc ∧ L.n1 + L.n2 ≤ rc ∧ OwnB w base w.heap.size ra (L.n1 + L.n2) (aZ L) := by
  obtain ⟨ra, rc, rfl, hrc, ho, hcond⟩ := h
  refine ⟨ra, rc, rfl, hrc, Nat.le_refl _, ?_⟩
  rcases hcond with h0 | ⟨g, rfl, hbg, hlt, hba⟩
  · exact .inl h0
  · rw [aL_len] at ho
    exact .inr ⟨g, 0, rfl, hbg, hlt, hba, fun i hi => ho.frozenAt _⟩
set_option maxHeartbeats 1000000 in
theorem l3Flush_any (L : Lo) (a1 a2 : Option Addr) (c1 c2 : Nat) (w : World) (hs : L.n1 + L.n2 ≤ 90000) (h : LogAt w a1 a2 L) :
    Calls Tryz.prog 55 #[.agg #[.slice a1 L.n1 c1, .slice a2 L.n2 c2]] w fun e w' => ∃ ra rc, e = .returned (.agg #[.slice ra (L.n1 + L.n2) rc, .slice none 0 0]) ∧ Below w.heap.size w w' ∧ OwnB w' w.heap.size w'.heap.size ra (L.n1 + L.n2) (aZ L) := by
  have hb0 : ∀ o1 o2, Below w.heap.size w ((w.alloc o1).alloc o2) := fun o1 o2 => ((Below.refl _ _).alloc (Nat.le_refl _) _).alloc (by simp) _
  have HA : Hid (∀ o1 o2, LogAt ((w.alloc o1).alloc o2) a1 a2 L) := fun o1 o2 => h.below (hb0 o1 o2)
  clear h
  go_enter Tryz.func55, Tryz.ntmps55
  go_wp2_with fail
  refine (l3All_any L a1 a2 c1 c2 _ hs (HA.out _ _)).mono ?_
  rintro e w1 ⟨v1, rfl, hb1, hall⟩
  obtain ⟨ra, rc, rfl, hrc, ho1⟩ := hall.own
  obtain ⟨hcc, hff⟩ := bcell hb1
  have hsz : ∀ o1 o2 : Obj, ((w.alloc o1).alloc o2).heap.size = w.heap.size + 2 := fun _ _ => by simp
  have hz1 : w.heap.size + 2 ≤ w1.heap.size := by have := hb1.size; rw [hsz] at this; exact this
  have r0 : w1.cell? ⟨w.heap.size + 1, 0, none⟩ = some (.slice none 0 0) := by rw [hcc _ _ (by simp <;> omega)]; simp [go_sem]
  have r1 : w1.cell? ⟨w.heap.size + 1, 1, none⟩ = some (.slice none 0 0) := by rw [hcc _ _ (by simp <;> omega)]; simp [go_sem]
  have fz : ∀ i, w1.frozen? ⟨w.heap.size + 1, i, none⟩ = false := fun i => by rw [hff _ _ (by simp <;> omega)]; simp [go_sem]
  have HB1 : Hid (Below w.heap.size w w1) := below_then (hb0 _ _) hb1
  rw [hsz] at ho1
  have HO : Hid (OwnB w1 (w.heap.size + 2) w1.heap.size ra (L.n1 + L.n2) (aZ L)) := ho1
  generalize ht : L.n1 + L.n2 = t at *
  have HT : Hid (L.n1 + L.n2 = t) := ht
  clear hcc hff hb1 hall ho1 hb0 hsz ht
  go_wp2_with fail
  refine bodyPost_ret (v := .agg #[.slice ra t rc, .slice none 0 0]) (by simp [results, Tryz.results55, go_sem, *]) rfl ?_
  have hw : ∀ w7, Writes (w.heap.size + 1) (w.heap.size + 2) w1 w7 → w7.heap.size = w1.heap.size → Below w.heap.size w w7 ∧ OwnB w7 w.heap.size w7.heap.size ra t (aZ L) := fun w7 h7 e7 => by
    refine ⟨Writes.below HB1.out h7 (by omega), ?_⟩
    rw [e7]
    exact (HO.out.writes h7 (.inr (Nat.le_refl _))).wide (by omega) (Nat.le_refl _) (by omega)
  rw [HT.out]
  refine ⟨ra, rc, rfl, ?_⟩
  refine hw _ ?_ (by simp [World.setCell])
  repeat (first | exact Writes.refl _ _ _ | refine Writes.setCell ?_ (by first | omega | (simp <;> omega)) (by first | omega | (simp <;> omega)) _)
theorem sure_cells {w W w5 : World} {x0 x1 x2 : Value} (hb : Below W.heap.size W w5) (h0 : W.cell? ⟨w.heap.size, 0, none⟩ = some x0) (h1 : W.cell? ⟨w.heap.size, 1, none⟩ = some x1) (h2 : W.cell? ⟨w.heap.size, 2, none⟩ = some x2)
    (k0 : W.cell? ⟨w.heap.size + 1, 0, none⟩ = some (.int .i64 0)) (k1 : W.cell? ⟨w.heap.size + 1, 1, none⟩ = some (.int .i64 0)) (k2 : W.cell? ⟨w.heap.size + 1, 2, none⟩ = some (.slice none 0 0)) (k3 : W.cell? ⟨w.heap.size + 1, 3, none⟩ = some (.slice none 0 0)) (hf : ∀ i, W.frozen? ⟨w.heap.size + 1, i, none⟩ = false) :
    w5.cell? ⟨w.heap.size, 0, none⟩ = some x0 ∧ w5.cell? ⟨w.heap.size, 1, none⟩ = some x1 ∧ w5.cell? ⟨w.heap.size, 2, none⟩ = some x2 ∧ w5.cell? ⟨w.heap.size + 1, 0, none⟩ = some (.int .i64 0) ∧ w5.cell? ⟨w.heap.size + 1, 1, none⟩ = some (.int .i64 0) ∧ w5.cell? ⟨w.heap.size + 1, 2, none⟩ = some (.slice none 0 0) ∧ w5.cell? ⟨w.heap.size + 1, 3, none⟩ = some (.slice none 0 0) ∧ ∀ i, w5.frozen? ⟨w.heap.size + 1, i, none⟩ = false :=
  ⟨cell_below h0 hb, cell_below h1 hb, cell_below h2 hb, cell_below k0 hb, cell_below k1 hb, cell_below k2 hb, cell_below k3 hb, fun i => (hb.frozen (p := ⟨w.heap.size + 1, i, none⟩) (by have := Go.block_lt_of_cell k0; exact this)).trans (hf i)⟩
theorem sureB {W w5 : World} (hb : Below W.drew.heap.size W.drew w5) : Below W.heap.size W w5 := ((Below.refl _ _).drew).trans hb
theorem sureO {w w5 : World} {o1 o2 o3 : Obj} {a : Option Addr} {u : Nat} {z : Nat → Int} (h : OwnB w5 (((w.alloc o1).alloc o2).alloc o3).drew.heap.size w5.heap.size a u z) : OwnB w5 (w.heap.size + 3) w5.heap.size a u z := by
  have e : (((w.alloc o1).alloc o2).alloc o3).drew.heap.size = w.heap.size + 3 := by show (((w.alloc o1).alloc o2).alloc o3).heap.size = _; simp
  rw [e] at h
  exact h
theorem one_at (X : World) (x : Value) (t : TypeId) : (X.alloc (.cells #[x] t)).cell? ⟨X.heap.size, 0, none⟩ = some x := by simp
theorem new_cell3 (w : World) (o1 o2 : Obj) (x : Value) (t : TypeId) : (((w.alloc o1).alloc o2).alloc (.cells #[x] t)).drew.cell? ⟨w.heap.size + 1 + 1, 0, none⟩ = some x := by
  have h := one_at ((w.alloc o1).alloc o2) x t
  rw [World.size_alloc, World.size_alloc] at h
  exact h
theorem box_cells3 (w : World) (c u : Int) (x : Value) (t1 t2 : TypeId) (o3 : Obj) {W : World} (hW : W = ((w.alloc (.cells #[.int .i64 c, .int .i64 u, x] t1)).alloc (.cells #[.int .i64 0, .int .i64 0, .slice none 0 0, .slice none 0 0] t2))) :
    ((W.alloc o3).drew.cell? ⟨w.heap.size, 0, none⟩ = some (.int .i64 c) ∧ (W.alloc o3).drew.cell? ⟨w.heap.size, 1, none⟩ = some (.int .i64 u) ∧ (W.alloc o3).drew.cell? ⟨w.heap.size, 2, none⟩ = some x) ∧
    (W.alloc o3).drew.cell? ⟨w.heap.size + 1, 0, none⟩ = some (.int .i64 0) ∧ (W.alloc o3).drew.cell? ⟨w.heap.size + 1, 1, none⟩ = some (.int .i64 0) ∧ (W.alloc o3).drew.cell? ⟨w.heap.size + 1, 2, none⟩ = some (.slice none 0 0) ∧ (W.alloc o3).drew.cell? ⟨w.heap.size + 1, 3, none⟩ = some (.slice none 0 0) := by
  have e : ∀ b i v, W.cell? ⟨b, i, none⟩ = some v → (W.alloc o3).drew.cell? ⟨b, i, none⟩ = some v := fun b i v h => cell_alloc h o3
  subst hW
  exact ⟨⟨e _ _ _ (by simp), e _ _ _ (by simp), e _ _ _ (by simp)⟩, e _ _ _ (by simp), e _ _ _ (by simp), e _ _ _ (by simp), e _ _ _ (by simp)⟩
theorem box_frozen3 (w : World) (c1 c2 c3 : Array Value) (t1 t2 t3 : TypeId) : ∀ i, (((w.alloc (.cells c1 t1)).alloc (.cells c2 t2)).alloc (.cells c3 t3)).drew.frozen? ⟨w.heap.size + 1, i, none⟩ = false := fun i => by
  show (((w.alloc (.cells c1 t1)).alloc (.cells c2 t2)).alloc (.cells c3 t3)).frozen? ⟨w.heap.size + 1, i, none⟩ = false
  rw [frozen?_alloc_cells]; simp
set_option maxHeartbeats 2000000 in
theorem sureLog_any (n u m : Nat) (z : Nat → Int) (ra rb : Option Addr) (rc rcp : Nat) (c : Int) (w : World) (hu : u ≤ n) (hn : n ≤ rc) (hn9 : n ≤ 90000) (hb : BytesAt w ra n z) :
    Calls Tryz.prog 129 #[.slice ra n rc, .agg #[.int .i64 c, .int .i64 u, .slice rb m rcp]] w fun e w' => ∃ a cap, e = .returned (.agg #[.int .i64 0, .int .i64 m, .slice a u cap, .slice none 0 0]) ∧ Below w.heap.size w w' ∧ OwnB w' w.heap.size w'.heap.size a u z := by
  have hbu : BytesAt w ra u z := by
    rcases hb with h | ⟨b, off, h1, h2, h3⟩
    · exact .inl (by omega)
    · exact .inr ⟨b, off, h1, h2, fun i hi => h3 i (by omega)⟩
  have hb0 : ∀ o1 o2 o3, Below w.heap.size w (((w.alloc o1).alloc o2).alloc o3) := fun o1 o2 o3 => (((Below.refl _ _).alloc (Nat.le_refl _) _).alloc (by simp) _).alloc (by simp; omega) _
  have HA : Hid (∀ o1 o2 o3, BytesAt (((w.alloc o1).alloc o2).alloc o3) ra u z) := fun o1 o2 o3 => hbu.below (hb0 o1 o2 o3)
  have HB0 : Hid (∀ o1 o2 o3, Below w.heap.size w (((w.alloc o1).alloc o2).alloc o3)) := hb0
  have hu1 : (u : Int) ≤ (rc : Int) := by omega
  have hu2 : (0 : Int) ≤ (u : Int) := by omega
  have hu9 : u ≤ 90000 := by omega
  clear hb hbu hb0
  go_enter Tryz.func129, Tryz.ntmps129
  go_wp2_with fail
  go_region_law (first | (go_simp; go_at_call 130; refine (joined_one (w.heap.size + 1 + 1) ra u rc z _ hu9 (new_cell3 w _ _ _ _) (HA.out _ _ _)).mono ?_; rintro e w5 ⟨a5, cp5, rfl, hb5, ho5⟩; obtain ⟨⟨y0, y1, y2⟩, y3, y4, y5, y6⟩ := box_cells3 w c u (.slice rb m rcp) 163 99 (.cells #[.slice ra u rc] 27) rfl; obtain ⟨x0, x1, x2, k0, k1, k2, k3, kf⟩ := sure_cells (w := w) hb5 y0 y1 y2 y3 y4 y5 y6 (box_frozen3 w _ _ _ _ _ _); have HB5 : Hid (Below w.heap.size w w5) := below_then (HB0.out _ _ _) (sureB hb5); have HO5 : Hid (OwnB w5 (w.heap.size + 3) w5.heap.size a5 u z) := sureO ho5))
  all_goals
    clear hb5 ho5 y0 y1 y2 y3 y4 y5 y6
    go_wp2_with fail
    refine bodyPost_ret (v := .agg #[.int .i64 0, .int .i64 m, .slice a5 u cp5, .slice none 0 0]) (by simp [results, Tryz.results129, go_sem, *]) rfl ?_
    have hw : ∀ w7, Writes (w.heap.size + 1) (w.heap.size + 2) w5 w7 → w7.heap.size = w5.heap.size → Below w.heap.size w w7 ∧ OwnB w7 w.heap.size w7.heap.size a5 u z := fun w7 h7 e7 => by
      refine ⟨Writes.below HB5.out h7 (by omega), ?_⟩
      rw [e7]
      exact (HO5.out.writes h7 (.inr (by omega))).wide (by omega) (Nat.le_refl _) (by omega)
    refine ⟨a5, cp5, rfl, ?_⟩
    refine hw _ ?_ (by simp [World.setCell])
    repeat (first | exact Writes.refl _ _ _ | refine Writes.setCell ?_ (by first | omega | (simp <;> omega)) (by first | omega | (simp <;> omega)) _)
/-- The log that FlushLog leaves. -/
def flL (L : Lo) : Lo := if lgC L = 0 then ⟨L.n1 + L.n2, aZ L, 0, fun _ => 0⟩ else ⟨0, fun _ => 0, 0, fun _ => 0⟩
def flS (L : Lo) : Int := if lgC L = 0 then cnt (aZ L) (L.n1 + L.n2) else 0
theorem lres_bad {L : Lo} {w w' : World} (hb : Below w.heap.size w w') (hc : lgC L ≠ 0) : LRes (lgC L) (flS L) (flL L) w (.returned (.agg #[.int .i64 (lgC L), .int .i64 0, .slice none 0 0, .slice none 0 0])) w' := by
  unfold LRes flS flL
  rw [if_neg hc, if_neg hc]
  exact ⟨none, none, 0, 0, rfl, hb, Nat.le_refl _, w.heap.size, w.heap.size, w.heap.size, w.heap.size, Nat.le_refl _, hb.size, Nat.le_refl _, hb.size, .inl (Nat.le_refl _), ⟨hb.size, .inl rfl⟩, ⟨hb.size, .inl rfl⟩⟩
theorem lres_ok {L : Lo} {w wq w' : World} {a : Option Addr} {cap lo : Nat} (hc : lgC L = 0) (hB : Below w.heap.size w wq) (hlo : w.heap.size + 2 ≤ lo) (ho : OwnB wq lo wq.heap.size a (L.n1 + L.n2) (aZ L)) (hw : Writes (w.heap.size + 1) (w.heap.size + 2) wq w') (hs : w'.heap.size = wq.heap.size) :
    LRes (lgC L) (flS L) (flL L) w (.returned (.agg #[.int .i64 0, .int .i64 (cnt (aZ L) (L.n1 + L.n2)), .slice a (L.n1 + L.n2) cap, .slice none 0 0])) w' := by
  unfold LRes flS flL
  rw [if_pos hc, if_pos hc, hc]
  have hz := hB.size
  have h2 := (ho.writes hw (.inr hlo)).wide (lo' := w.heap.size) (hi' := wq.heap.size) (by omega) (Nat.le_refl _) (by omega)
  refine ⟨a, none, cap, 0, rfl, Writes.below hB hw (by omega), ?_⟩
  rw [hs]
  exact ⟨by omega, w.heap.size, wq.heap.size, w.heap.size, w.heap.size, Nat.le_refl _, Nat.le_refl _, Nat.le_refl _, hz, .inr (Nat.le_refl _), h2, ⟨by omega, .inl rfl⟩⟩
theorem cells7 {w1 w2 : World} {B : Nat} {x0 x1 y0 y1 y2 y3 : Value} (hb : Below w1.heap.size w1 w2) (h0 : w1.cell? ⟨B, 0, none⟩ = some x0) (h1 : w1.cell? ⟨B, 1, none⟩ = some x1)
    (k0 : w1.cell? ⟨B + 1, 0, none⟩ = some y0) (k1 : w1.cell? ⟨B + 1, 1, none⟩ = some y1) (k2 : w1.cell? ⟨B + 1, 2, none⟩ = some y2) (k3 : w1.cell? ⟨B + 1, 3, none⟩ = some y3) (hf : ∀ i, w1.frozen? ⟨B + 1, i, none⟩ = false) :
    w2.cell? ⟨B, 0, none⟩ = some x0 ∧ w2.cell? ⟨B, 1, none⟩ = some x1 ∧ w2.cell? ⟨B + 1, 0, none⟩ = some y0 ∧ w2.cell? ⟨B + 1, 1, none⟩ = some y1 ∧ w2.cell? ⟨B + 1, 2, none⟩ = some y2 ∧ w2.cell? ⟨B + 1, 3, none⟩ = some y3 ∧ ∀ i, w2.frozen? ⟨B + 1, i, none⟩ = false :=
  ⟨cell_below h0 hb, cell_below h1 hb, cell_below k0 hb, cell_below k1 hb, cell_below k2 hb, cell_below k3 hb, fun i => (hb.frozen (p := ⟨B + 1, i, none⟩) (by have := Go.block_lt_of_cell k0; exact this)).trans (hf i)⟩
theorem joined_twoG (L : Lo) (a1 a2 : Option Addr) (c1 c2 g : Nat) (w : World) (hs : L.n1 + L.n2 ≤ 90000) (h0 : w.cell? ⟨g, 0, none⟩ = some (.slice a1 L.n1 c1)) (h1 : w.cell? ⟨g, 1, none⟩ = some (.slice a2 L.n2 c2)) (h : LogAt w a1 a2 L) :
    Calls Tryz.prog 130 #[.slice (some ⟨g, 0, none⟩) 2 2] w fun e w' => ∃ ra rc, e = .returned (.slice ra (L.n1 + L.n2) rc) ∧ L.n1 + L.n2 ≤ rc ∧ Below w.heap.size w w' ∧ BytesAt w' ra (L.n1 + L.n2) (aZ L) := by
  refine (joined_any 2 (two' a1 a2) (two' L.n1 L.n2) (two' c1 c2) (two' L.z1 L.z2) g 0 2 _ (by simp [sumL, two']; omega) (Go.block_lt_of_cell h0) (fun i hi => ?_) (by omega)).mono ?_
  · rcases (by omega : i = 0 ∨ i = 1) with rfl | rfl
    · exact ⟨h0, h.1⟩
    · exact ⟨h1, h.2⟩
  · rintro e w' ⟨v, rfl, hb1, ho⟩
    rw [jn_two] at ho
    obtain ⟨ra, rc, rfl, hrc, hown⟩ := (allAt_of ho).own
    exact ⟨ra, rc, rfl, hrc, hb1, hown.at⟩
theorem two_at (X : World) (x y : Value) (t : TypeId) : (X.alloc (.cells #[x, y] t)).cell? ⟨X.heap.size, 0, none⟩ = some x ∧ (X.alloc (.cells #[x, y] t)).cell? ⟨X.heap.size, 1, none⟩ = some y := ⟨by simp, by simp⟩
theorem two_at2 (w : World) (o : Obj) (x y : Value) (t : TypeId) : ((w.alloc o).alloc (.cells #[x, y] t)).drew.cell? ⟨w.heap.size + 1, 0, none⟩ = some x ∧ ((w.alloc o).alloc (.cells #[x, y] t)).drew.cell? ⟨w.heap.size + 1, 1, none⟩ = some y := by
  have h := two_at (w.alloc o) x y t
  rw [World.size_alloc] at h
  exact h
theorem drewB7 {w : World} {o1 o2 : Obj} {w2 : World} (hb : Below ((w.alloc o1).alloc o2).drew.heap.size ((w.alloc o1).alloc o2).drew w2) : Below w.heap.size w w2 := below_then (below_then (below_new _ _) (below_new _ _)) (((Below.refl _ _).drew).trans hb)
theorem box3_at {w w2 : World} {x y z : Value} {t : TypeId} {o2 : Obj} (hb : Below ((w.alloc (.cells #[x, y, z] t)).alloc o2).drew.heap.size ((w.alloc (.cells #[x, y, z] t)).alloc o2).drew w2) :
    w2.cell? ⟨w.heap.size, 0, none⟩ = some x ∧ w2.cell? ⟨w.heap.size, 1, none⟩ = some y ∧ w2.cell? ⟨w.heap.size, 2, none⟩ = some z := by
  have h : Below (w.alloc (.cells #[x, y, z] t)).heap.size (w.alloc (.cells #[x, y, z] t)) w2 := below_then (below_new _ _) (((Below.refl _ _).drew).trans hb)
  exact ⟨cell_below (by simp) h, cell_below (by simp) h, cell_below (by simp) h⟩
set_option maxHeartbeats 4000000 in
theorem implFl_any (L : Lo) (a1 a2 : Option Addr) (c1 c2 : Nat) (w : World) (hn1 : L.n1 ≤ 1048576) (hn2 : L.n2 ≤ 1048576) (hby : LogByt L) (h : LogAt w a1 a2 L) :
    Calls Tryz.prog 60 #[.agg #[.slice a1 L.n1 c1, .slice a2 L.n2 c2]] w (LRes (lgC L) (flS L) (flL L) w) := by
  have hb0 : ∀ o1 o2, Below w.heap.size w ((w.alloc o1).alloc o2) := fun o1 o2 => ((Below.refl _ _).alloc (Nat.le_refl _) _).alloc (by simp) _
  have HA : Hid (LogAt w a1 a2 L) := h
  have HY : Hid (LogByt L) := hby
  clear h hby
  go_enter Tryz.func60, Tryz.ntmps60
  go_wp2_with fail
  refine (readLog_any L a1 a2 c1 c2 _ hn1 hn2 HY.out (HA.out.below (hb0 _ _))).mono ?_
  rintro e w1 ⟨rb, rcp, u, m, rfl, HE, hb1, -⟩
  obtain ⟨hcc, hff⟩ := bcell hb1
  have hz1 : w.heap.size + 2 ≤ w1.heap.size := by have := hb1.size; simp at this; omega
  have q0 : w1.cell? ⟨w.heap.size, 0, none⟩ = some (.slice a1 L.n1 c1) := by rw [hcc _ _ (by simp <;> omega)]; simp [go_sem]
  have q1 : w1.cell? ⟨w.heap.size, 1, none⟩ = some (.slice a2 L.n2 c2) := by rw [hcc _ _ (by simp <;> omega)]; simp [go_sem]
  have r0 : w1.cell? ⟨w.heap.size + 1, 0, none⟩ = some (.int .i64 0) := by rw [hcc _ _ (by simp <;> omega)]; simp [go_sem]
  have r1 : w1.cell? ⟨w.heap.size + 1, 1, none⟩ = some (.int .i64 0) := by rw [hcc _ _ (by simp <;> omega)]; simp [go_sem]
  have r2 : w1.cell? ⟨w.heap.size + 1, 2, none⟩ = some (.slice none 0 0) := by rw [hcc _ _ (by simp <;> omega)]; simp [go_sem]
  have r3 : w1.cell? ⟨w.heap.size + 1, 3, none⟩ = some (.slice none 0 0) := by rw [hcc _ _ (by simp <;> omega)]; simp [go_sem]
  have fz : ∀ i, w1.frozen? ⟨w.heap.size + 1, i, none⟩ = false := fun i => by rw [hff _ _ (by simp <;> omega)]; simp [go_sem]
  have p0 := fun o : Obj => cell_alloc q0 o
  have p1 := fun o : Obj => cell_alloc q1 o
  have s0 := fun o : Obj => cell_alloc r0 o
  have s1 := fun o : Obj => cell_alloc r1 o
  have s2 := fun o : Obj => cell_alloc r2 o
  have s3 := fun o : Obj => cell_alloc r3 o
  have sf : ∀ i c t, (w1.alloc (.cells c t)).frozen? ⟨w.heap.size + 1, i, none⟩ = false := fun i c t => by rw [frozen?_alloc_cells]; exact fz i
  have HB1 : Hid (Below w.heap.size w w1) := below_then (hb0 _ _) hb1
  clear hcc hff hb1 hb0
  by_cases hc : lgC L = 0
  · have HC : Hid (lgC L = 0) := hc
    obtain ⟨hle, hcnt⟩ := lgC_zero hc
    obtain ⟨hm, hu⟩ := HE.out
    rw [if_pos hc] at hm
    have hu2 : u = ((L.n1 + L.n2 : Nat) : Int) := by rw [hu, hm]; omega
    subst hu2
    have HM : Hid ((m : Int) = (cnt (aZ L) (L.n1 + L.n2) : Int)) := by show _ = _; rw [hm]
    have hle3 : L.n1 + L.n2 ≤ 90000 := by omega
    rw [hc]
    have HLA : Hid (∀ o1 o2, LogAt ((w1.alloc o1).alloc o2).drew a1 a2 L) := fun o1 o2 => (HA.out.below HB1.out).below (((Below.refl _ _).alloc (Nat.le_refl _) _).alloc (by simp) _).drew
    clear hc hcnt hm hu HE
    go_wp2_with fail
    go_region_law (first | (go_simp; go_at_call 130; refine (joined_twoG L a1 a2 c1 c2 (w1.heap.size + 1) _ hle3 (two_at2 w1 _ _ _ _).1 (two_at2 w1 _ _ _ _).2 (HLA.out _ _)).mono ?_; rintro e w5 ⟨ra, rc, rfl, hrc, hb5, hby5⟩; obtain ⟨y0, y1, y2⟩ := box3_at hb5; have hB5 := drewB7 hb5; obtain ⟨t0, t1, t2, t3, t4, t5, tf⟩ := cells7 hB5 q0 q1 r0 r1 r2 r3 fz) | (go_simp; go_at_call 129; refine (sureLog_any (L.n1 + L.n2) (L.n1 + L.n2) m (aZ L) ra rb rc rcp 0 w5 (Nat.le_refl _) hrc hle3 hby5).mono ?_; rintro e w6 ⟨a6, cp6, rfl, hb6, ho6⟩; obtain ⟨u0, u1, u2, u3, u4, u5, uf⟩ := cells7 hb6 t0 t1 t2 t3 t4 t5 tf; have HB6 : Hid (Below w.heap.size w w6) := below_then HB1.out (below_then hB5 hb6); have HO6 : Hid (OwnB w6 w5.heap.size w6.heap.size a6 (L.n1 + L.n2) (aZ L)) := ho6; have hz5 := Nat.le_trans hz1 hB5.size))
    all_goals
      clear hb5 hby5 hB5 t0 t1 t2 t3 t4 t5 tf hb6 ho6 y0 y1 y2
      rw [HM.out]
      go_wp2_with fail
      refine bodyPost_ret (v := .agg #[.int .i64 0, .int .i64 (cnt (aZ L) (L.n1 + L.n2)), .slice a6 (L.n1 + L.n2) cp6, .slice none 0 0]) (by simp [results, Tryz.results60, go_sem, *]) rfl ?_
      refine lres_ok HC.out HB6.out hz5 HO6.out ?_ (by simp [World.setCell])
      repeat (first | exact Writes.refl _ _ _ | refine Writes.setCell ?_ (by first | omega | (simp <;> omega)) (by first | omega | (simp <;> omega)) _)
  · have hd : (lgC L != 0) = true := by simpa using hc
    have HX : Hid (∀ w', Below w.heap.size w w' → LRes (lgC L) (flS L) (flL L) w (.returned (.agg #[.int .i64 (lgC L), .int .i64 0, .slice none 0 0, .slice none 0 0])) w') := fun w' hb => lres_bad hb hc
    clear hc HE
    generalize lgC L = c at *
    go_wp2_with fail
    refine bodyPost_ret (v := .agg #[.int .i64 c, .int .i64 0, .slice none 0 0, .slice none 0 0]) (by simp [results, Tryz.results60, go_sem, *]) rfl ?_
    refine HX.out _ ?_
    repeat (first | exact HB1.out.alloc HB1.out.size _ | refine Below.setCell ?_ (by first | omega | (simp <;> omega)) _)
theorem ZR.block {w w' : World} {B : Nat} (h : ZR w B) (e : w'.heap[B]? = w.heap[B]?) : ZR w' B := by
  obtain ⟨⟨r0, r1, r2, r3, r4, r5, r6, r7, r8, r9⟩, rf⟩ := h
  have q : ∀ i, w'.cell? ⟨B, i, none⟩ = w.cell? ⟨B, i, none⟩ := fun i => World.cell?_of_block (w := w) (a := ⟨B, i, none⟩) e
  exact ⟨⟨(q 0).trans r0, (q 1).trans r1, (q 2).trans r2, (q 3).trans r3, (q 4).trans r4, (q 5).trans r5, (q 6).trans r6, (q 7).trans r7, (q 8).trans r8, (q 9).trans r9⟩, fun i => (World.frozen?_of_block (w := w) (a := ⟨B, i, none⟩) e).trans (rf i)⟩
/-- How many of the first k stay, and what they are: those whose K is not x. -/
def flN (K : Nat → Int) (x : Int) : Nat → Nat
  | 0 => 0
  | k + 1 => if K k = x then flN K x k else flN K x k + 1
def flF (K G : Nat → Int) (x : Int) : Nat → Nat → Int
  | 0 => G
  | k + 1 => if K k = x then flF K G x k else apI (flF K G x k) (flN K x k) (G k)
theorem flN_le (K : Nat → Int) (x : Int) : ∀ k, flN K x k ≤ k
  | 0 => Nat.le_refl _
  | k + 1 => by
    have := flN_le K x k
    simp only [flN]
    split <;> omega
theorem fl_in {K : Nat → Int} (G : Nat → Int) {x : Int} {k : Nat} (h : K k = x) : flN K x (k + 1) = flN K x k ∧ flF K G x (k + 1) = flF K G x k := ⟨if_pos h, if_pos h⟩
theorem fl_out {K : Nat → Int} (G : Nat → Int) {x : Int} {k : Nat} (h : K k ≠ x) : flN K x (k + 1) = flN K x k + 1 ∧ flF K G x (k + 1) = apI (flF K G x k) (flN K x k) (G k) := ⟨if_neg h, if_neg h⟩
theorem cbF_up (K V : Nat → Int) (n : Nat) (k v : Int) : cbF K V n ++ [.int .i64 k, .int .i64 v] = cbF (apI K n k) (apI V n v) (n + 1) := by
  refine List.ext_getElem? fun j => ?_
  by_cases hj : j < n * 2
  · rw [List.getElem?_append_left (by rw [cbF_len]; exact hj), cbF_get hj, cbF_get (by omega)]
    unfold cv
    have : j / 2 < n := by omega
    simp [apI, this]
  · by_cases hj2 : j < (n + 1) * 2
    · rw [List.getElem?_append_right (by rw [cbF_len]; omega), cbF_len, cbF_get hj2]
      have : j = n * 2 ∨ j = n * 2 + 1 := by omega
      rcases this with rfl | rfl
      · rw [cv_key]; simp [apI]
      · rw [cv_val]; simp [apI]
    · rw [List.getElem?_eq_none (by simp [cbF_len]; omega), List.getElem?_eq_none (by rw [cbF_len]; omega)]
theorem infoHe : (Tryz.prog.info? 124).map (fun i => (i.zero, i.size, i.bytes)) = some (some (.agg #[.int .i64 0, .int .i64 0]), 2, 16) := by kernel_rfl
theorem wpList_appHe {ops : Array Oper} {rest : List Oper} {o : Oper} {a : Act} {Q : Exit → Act → World → Prop} (w : World) (hgd : o.guard = none) (s x : Operand)
    (ho : o.op = .call { callee := .builtin .append, args := #[s, x], argTypes := #[40, 40] })
    (base : Nat) (v : Value) (n : Nat) (xs : List Value) (hs : a.eval s = v) (hown : w.ownsRow base 124 2 v n xs) (X cx : Nat) (k z : Int) (hx : a.eval x = .slice (some ⟨X, 0, none⟩) 1 cx) (hc : w.cell? ⟨X, 0, none⟩ = some (.int .i64 k)) (hc2 : w.cell? ⟨X, 1, none⟩ = some (.int .i64 z)) (hn : n ≤ 1100000) (hbase : base ≤ w.heap.size)
    (h : ∀ g cap w', w'.ownsRow base 124 2 (.slice (some ⟨g, 0, none⟩) (n + 1) cap) (n + 1) (xs ++ [.int .i64 k, .int .i64 z]) → w.grownBy w' v.ownBlock → v.ownBlock = some g ∨ g = w.heap.size → wpList Tryz.prog ops Q rest (a.put o.dst (.slice (some ⟨g, 0, none⟩) (n + 1) cap)) w') : wpList Tryz.prog ops Q (o :: rest) a w := by
  obtain ⟨i0, hi, hzz⟩ := Option.map_eq_some_iff.1 infoHe
  simp only [Prod.mk.injEq] at hzz
  obtain ⟨hz0, hz1, hz2⟩ := hzz
  refine wpList_plain hgd fun _ hKK => wp_append_lies w s x 40 ho base 124 i0 _ 2 16 Tryz.underlying40 hi hz0 hz1 hz2 rfl (by decide) v n xs hs hown ⟨X, 0, none⟩ 1 cx [.int .i64 k, .int .i64 z] hx rfl (fun j u hj => ?_) (by intro u hu; simp at hu; rcases hu with rfl | rfl <;> rfl) (by omega) (by unfold maxLen; omega) (by omega) hbase _ rfl fun g cap w' h2 h3 h4 h5 => hKK _ _ (h g cap w' h2 h3 h4)
  have hj0 : j = 0 ∨ j = 1 := by
    have := (List.getElem?_eq_some_iff.1 hj).1
    simp at this
    omega
  rw [WideShapes.add_plain]
  rcases hj0 with rfl | rfl
  · simp at hj; subst hj; exact hc
  · simp at hj; subst hj; exact hc2
theorem wpList_appOm {ops : Array Oper} {rest : List Oper} {o : Oper} {a : Act} {Q : Exit → Act → World → Prop} (w : World) (hgd : o.guard = none) (s x : Operand)
    (ho : o.op = .call { callee := .builtin .append, args := #[s, x], argTypes := #[31, 31] })
    (base : Nat) (v : Value) (n : Nat) (xs : List Value) (hs : a.eval s = v) (hown : w.ownsRow base 2 1 v n xs) (X cx : Nat) (z : Int) (hx : a.eval x = .slice (some ⟨X, 0, none⟩) 1 cx) (hc : w.cell? ⟨X, 0, none⟩ = some (.int .i64 z)) (hn : n ≤ 1100000) (hbase : base ≤ w.heap.size)
    (h : ∀ g cap w', w'.ownsRow base 2 1 (.slice (some ⟨g, 0, none⟩) (n + 1) cap) (n + 1) (xs ++ [.int .i64 z]) → w.grownBy w' v.ownBlock → v.ownBlock = some g ∨ g = w.heap.size → wpList Tryz.prog ops Q rest (a.put o.dst (.slice (some ⟨g, 0, none⟩) (n + 1) cap)) w') : wpList Tryz.prog ops Q (o :: rest) a w := by
  obtain ⟨i0, hi, hzz⟩ := Option.map_eq_some_iff.1 infoInt
  simp only [Prod.mk.injEq] at hzz
  obtain ⟨hz0, hz1, hz2⟩ := hzz
  refine wpList_plain hgd fun _ hKK => wp_append_lies w s x 31 ho base 2 i0 _ 1 8 Tryz.underlying31 hi hz0 hz1 hz2 rfl (by decide) v n xs hs hown ⟨X, 0, none⟩ 1 cx [.int .i64 z] hx rfl (fun j u hj => ?_) (by intro u hu; simp at hu; subst hu; rfl) (by omega) (by unfold maxLen; omega) (by omega) hbase _ rfl fun g cap w' h2 h3 h4 h5 => hKK _ _ (h g cap w' h2 h3 h4)
  have hj0 : j = 0 := by
    have := (List.getElem?_eq_some_iff.1 hj).1
    simp at this
    exact this
  subst hj0
  simp at hj
  subst hj
  rw [WideShapes.add_plain]
  exact hc
theorem end1_any (z x : Int) (X : Nat) (w : World) (hc : w.cell? ⟨X, 0, none⟩ = some (.int .i64 x)) :
    Calls Tryz.prog 125 #[.int .i64 z, .pointer (some ⟨X, 0, none⟩)] w fun e w' => e = .returned (.bool (z == x)) ∧ w' = w := by
  go_enter Tryz.func125, Tryz.ntmps125
  go_wp2_with fail
  go_ret
  exact ⟨rfl, rfl⟩
theorem end2_any (k z x : Int) (X : Nat) (w : World) (hc : w.cell? ⟨X, 0, none⟩ = some (.int .i64 x)) :
    Calls Tryz.prog 127 #[.agg #[.int .i64 k, .int .i64 z], .pointer (some ⟨X, 0, none⟩)] w fun e w' => e = .returned (.bool (k == x)) ∧ Below w.heap.size w w' := by
  have h2 := fun o : Obj => cell_alloc hc o
  go_enter Tryz.func127, Tryz.ntmps127
  go_wp2_with fail
  go_ret
  exact ⟨rfl, below_new _ _⟩
/-- A row of numbers, of Held, of the call's own. -/
def RowNo (F : Nat → Int) (n : Nat) (w : World) (e : Ending) (w' : World) : Prop := ∃ v, e = .returned v ∧ Below w.heap.size w w' ∧ w'.ownsRow w.heap.size 2 1 v n (ivs F n)
def RowHe (K V : Nat → Int) (n : Nat) (w : World) (e : Ending) (w' : World) : Prop := ∃ v, e = .returned v ∧ Below w.heap.size w w' ∧ w'.ownsRow w.heap.size 124 2 v n (cbF K V n)
set_option maxHeartbeats 4000000 in
theorem withoutI_any (n : Nat) (F : Nat → Int) (a : Option Addr) (cap : Nat) (X : Nat) (x : Int) (w : World) (hn : n ≤ 1048576) (hc : w.cell? ⟨X, 0, none⟩ = some (.int .i64 x)) (h : IntsAt w a n F) :
    Calls Tryz.prog 124 #[.slice a n cap, .func (Fn.func 125) #[] #[.pointer (some ⟨X, 0, none⟩)]] w (RowNo (flF F F x n) (flN F x n) w) := by
  have HX : Hid (IntsAt w a n F) := h
  have HC : Hid (w.cell? ⟨X, 0, none⟩ = some (.int .i64 x)) := hc
  have H0 : Hid (w.ownsRow w.heap.size 2 1 (.slice none 0 0) (flN F x 0) (ivs (flF F F x 0) (flN F x 0))) := World.ownsRow_nil _ _ _ _
  clear h hc
  go_enter Tryz.func124, Tryz.ntmps124
  go_wp2_with fail
  go_loopw [5, 7, 10] (fun v _ i wr => ∃ k : Nat, k ≤ n ∧ i = .int .i64 k ∧ Hid (Below w.heap.size w wr) ∧ Hid (wr.ownsRow w.heap.size 2 1 v (flN F x k) (ivs (flF F F x k) (flN F x k)))) (fun _ _ i _ => n - (intOf i).toNat)
  case atStart => exact ⟨0, Nat.zero_le _, rfl, Below.refl _ _, H0⟩
  case round =>
    clear H0
    obtain ⟨k, hk, rfl, HB, HO⟩ := hrel
    by_cases hlt : k < n
    · have hlt' : (k : Int) < (n : Int) := by omega
      have hk0 : (0 : Int) ≤ (k : Int) := by omega
      rcases HX.out.below HB.out with h | ⟨bb, off, rfl, hl, hcc⟩
      · omega
      have x0 := hcc k hlt
      have hszr := HB.out.size
      have HLK : Hid (flN F x k ≤ 1100000) := by have := flN_le F x k; show _ ≤ _; omega
      have HCK : Hid (wr.cell? ⟨X, 0, none⟩ = some (.int .i64 x)) := cell_below HC.out HB.out
      clear hcc
      go_wp2_with fail
      refine (end1_any (F k) x X wr HCK.out).mono ?_
      rintro e w1 ⟨rfl, hw1⟩
      subst hw1
      by_cases hst : F k = x
      · have e1 := fl_in (K := F) F hst
        have hst2 : (F k == x) = true := by simp [hst]
        rw [hst2]
        clear hst hst2
        go_wp2_with fail
        go_roundw
        case rel => exact ⟨k + 1, hlt, by go_num, HB, by rw [e1.1, e1.2]; exact HO⟩
        case measure => simp [intOf]; omega
      · have E1 : Hid (flN F x (k + 1) = flN F x k + 1 ∧ flF F F x (k + 1) = apI (flF F F x k) (flN F x k) (F k)) := fl_out (K := F) F hst
        have hst2 : (F k == x) = false := by simp [hst]
        rw [hst2]
        have HOA : Hid (∀ o1 : Obj, (w1.alloc o1).ownsRow w.heap.size 2 1 _ (flN F x k) (ivs (flF F F x k) (flN F x k))) := fun o1 => own_belowI HO.out (below_new _ _)
        clear hst hst2
        go_wp2_with (at_builtin; refine wpList_appOm _ rfl (.tmp 18) (.tmp 20) rfl w.heap.size _ (flN F x k) _ rfl (HOA.out _) w1.heap.size 1 (F k) rfl (by simp [go_sem]) HLK.out (by simp; omega) ?_)
        intro g cp w3 ho3 hg3 hl3
        have HB3 : Hid (Below w.heap.size w w3) := by
          refine (below_then HB.out (below_new _ _)).grown hg3 (by simp; omega) fun q hq => ?_
          exact (HO.out.lt q hq).1
        have HO3 : Hid (w3.ownsRow w.heap.size 2 1 (.slice (some ⟨g, 0, none⟩) (flN F x k + 1) cp) (flN F x (k + 1)) (ivs (flF F F x (k + 1)) (flN F x (k + 1)))) := by
          show w3.ownsRow _ _ _ _ _ _
          rw [E1.out.1, E1.out.2, ← ivs_up]
          exact ho3
        clear ho3 hg3 hl3 x0 HOA E1
        go_wp2_with fail
        go_roundw
        case rel => exact ⟨k + 1, hlt, by go_num, HB3, HO3⟩
        case measure => simp [intOf]; omega
    · have hkn : k = n := by omega
      have hnl : ¬ ((k : Int) < (n : Int)) := by omega
      obtain ⟨va, vc, rfl, -⟩ := row_form HO.out
      have HF : Hid (RowNo (flF F F x n) (flN F x n) w (.returned (.slice va (flN F x k) vc)) wr) := ⟨_, rfl, HB.out, by have h := HO.out; rw [hkn] at h ⊢; exact h⟩
      clear HO HB
      generalize flN F x k = len at *
      go_wp2_with fail
      go_ret
      exact HF.out
set_option maxHeartbeats 4000000 in
theorem withoutH_any (n : Nat) (K V : Nat → Int) (a : Option Addr) (cap : Nat) (X : Nat) (x : Int) (w : World) (hn : n ≤ 1048576) (hc : w.cell? ⟨X, 0, none⟩ = some (.int .i64 x)) (h : CellsAt w a n K V) :
    Calls Tryz.prog 126 #[.slice a n cap, .func (Fn.func 127) #[] #[.pointer (some ⟨X, 0, none⟩)]] w (RowHe (flF K K x n) (flF K V x n) (flN K x n) w) := by
  have HX : Hid (CellsAt w a n K V) := h
  have HC : Hid (w.cell? ⟨X, 0, none⟩ = some (.int .i64 x)) := hc
  have H0 : Hid (w.ownsRow w.heap.size 124 2 (.slice none 0 0) (flN K x 0) (cbF (flF K K x 0) (flF K V x 0) (flN K x 0))) := World.ownsRow_nil _ _ _ _
  clear h hc
  go_enter Tryz.func126, Tryz.ntmps126
  go_wp2_with fail
  go_loopw [5, 7, 10] (fun v _ i wr => ∃ k : Nat, k ≤ n ∧ i = .int .i64 k ∧ Hid (Below w.heap.size w wr) ∧ Hid (wr.ownsRow w.heap.size 124 2 v (flN K x k) (cbF (flF K K x k) (flF K V x k) (flN K x k)))) (fun _ _ i _ => n - (intOf i).toNat)
  case atStart => exact ⟨0, Nat.zero_le _, rfl, Below.refl _ _, H0⟩
  case round =>
    clear H0
    obtain ⟨k, hk, rfl, HB, HO⟩ := hrel
    by_cases hlt : k < n
    · have hlt' : (k : Int) < (n : Int) := by omega
      have hk0 : (0 : Int) ≤ (k : Int) := by omega
      rcases HX.out.below HB.out with h | ⟨bb, off, rfl, hl, hcc, hcv⟩
      · omega
      have x0 := hcc k hlt
      have x1 := hcv k hlt
      have hszr := HB.out.size
      have HLK : Hid (flN K x k ≤ 1100000) := by have := flN_le K x k; show _ ≤ _; omega
      clear hcc hcv
      go_wp2_with fail
      obtain ⟨y, hy⟩ : ∃ z, z = wr.alloc (.cells #[.int .i64 (K k), .int .i64 (V k)] 124) := ⟨_, rfl⟩
      have HBy : Hid (Below wr.heap.size wr y) := by rw [hy]; exact below_new _ _
      have y0 : y.cell? ⟨wr.heap.size, 0, none⟩ = some (.int .i64 (K k)) := by rw [hy]; simp [go_sem]
      have y1 : y.cell? ⟨wr.heap.size, 1, none⟩ = some (.int .i64 (V k)) := by rw [hy]; simp [go_sem]
      rw [← hy]
      clear hy
      have HCK : Hid (y.cell? ⟨X, 0, none⟩ = some (.int .i64 x)) := cell_below (cell_below HC.out HB.out) HBy.out
      refine (end2_any (K k) (V k) x X y HCK.out).mono ?_
      rintro e w1 ⟨rfl, hb1⟩
      replace y0 := cell_below y0 hb1
      replace y1 := cell_below y1 hb1
      have HB1 : Hid (Below wr.heap.size wr w1) := below_then HBy.out hb1
      have HO1 : Hid (w1.ownsRow w.heap.size 124 2 _ (flN K x k) (cbF (flF K K x k) (flF K V x k) (flN K x k))) := own_belowI HO.out HB1.out
      have HBB : Hid (Below w.heap.size w w1) := below_then HB.out HB1.out
      clear hb1 x0 x1
      by_cases hst : K k = x
      · have e1 := fl_in (K := K) K hst
        have e2 := fl_in (K := K) V hst
        have hst2 : (K k == x) = true := by simp [hst]
        rw [hst2]
        clear hst hst2
        go_wp2_with fail
        go_roundw
        case rel => exact ⟨k + 1, hlt, by go_num, HBB, by rw [e1.1, e1.2, e2.2]; exact HO1⟩
        case measure => simp [intOf]; omega
      · have E1 : Hid (flN K x (k + 1) = flN K x k + 1 ∧ flF K K x (k + 1) = apI (flF K K x k) (flN K x k) (K k)) := fl_out (K := K) K hst
        have E2 : Hid (flN K x (k + 1) = flN K x k + 1 ∧ flF K V x (k + 1) = apI (flF K V x k) (flN K x k) (V k)) := fl_out (K := K) V hst
        have hst2 : (K k == x) = false := by simp [hst]
        rw [hst2]
        have HOA : Hid (∀ o1 : Obj, (w1.alloc o1).ownsRow w.heap.size 124 2 _ (flN K x k) (cbF (flF K K x k) (flF K V x k) (flN K x k))) := fun o1 => own_belowI HO1.out (below_new _ _)
        have hs1 := HB1.out.size
        clear hst hst2
        go_wp2_with (at_builtin; refine wpList_appHe _ rfl (.tmp 18) (.tmp 20) rfl w.heap.size _ (flN K x k) _ rfl (HOA.out _) w1.heap.size 1 (K k) (V k) rfl (by simp [go_sem]) (by simp [go_sem]) HLK.out (by simp; omega) ?_)
        intro g cp w3 ho3 hg3 hl3
        have HB3 : Hid (Below w.heap.size w w3) := by
          refine (below_then HBB.out (below_new _ _)).grown hg3 (by simp; omega) fun q hq => ?_
          exact (HO.out.lt q hq).1
        have HO3 : Hid (w3.ownsRow w.heap.size 124 2 (.slice (some ⟨g, 0, none⟩) (flN K x k + 1) cp) (flN K x (k + 1)) (cbF (flF K K x (k + 1)) (flF K V x (k + 1)) (flN K x (k + 1)))) := by
          show w3.ownsRow _ _ _ _ _ _
          rw [E2.out.2, E1.out.2, E1.out.1, ← cbF_up]
          exact ho3
        clear ho3 hg3 hl3 HOA E1 E2
        go_wp2_with fail
        go_roundw
        case rel => exact ⟨k + 1, hlt, by go_num, HB3, HO3⟩
        case measure => simp [intOf]; omega
    · have hkn : k = n := by omega
      have hnl : ¬ ((k : Int) < (n : Int)) := by omega
      obtain ⟨va, vc, rfl, -⟩ := row_form HO.out
      have HF : Hid (RowHe (flF K K x n) (flF K V x n) (flN K x n) w (.returned (.slice va (flN K x k) vc)) wr) := ⟨_, rfl, HB.out, by have h := HO.out; rw [hkn] at h ⊢; exact h⟩
      clear HO HB
      generalize flN K x k = len at *
      go_wp2_with fail
      go_ret
      exact HF.out
/-- A store with others open; with other keys held. -/
def onS (s : Sto) (m : Nat) (F : Nat → Int) : Sto := ⟨s.nx, s.pn, s.pT, s.d, s.g, s.hn, s.hK, s.hV, m, F⟩
def heS (s : Sto) (m : Nat) (K V : Nat → Int) : Sto := ⟨s.nx, s.pn, s.pT, s.d, s.g, m, K, V, s.on, s.oF⟩
/-- A store in which x has ended. -/
def enS (s : Sto) (x : Int) : Sto := heS (onS s (flN s.oF x s.on) (flF s.oF s.oF x s.on)) (flN s.hK x s.hn) (flF s.hK s.hK x s.hn) (flF s.hK s.hV x s.hn)
theorem Wk.setOpen {s : Sto} {n : Nat} {xs : List Value} {lo : Nat} {col : Nat → Nat} {B l h m vc : Nat} {w : World} {va : Option Addr} {F : Nat → Int} (H : Wk s n xs lo col B w) (hll : lo ≤ l) (hlh : l ≤ h) (hh : h ≤ w.heap.size) (hc : ∀ x, l ≤ x → x < h → col x = 0 ∧ x ≠ B) (ho : w.ownsRow l 2 1 (.slice va m vc) m (ivs F m)) (hoh : ∀ q, (Value.slice va m vc).ownBlock = some q → q < h) :
    Wk (onS s m F) n xs lo (colr col l h 5) B (w.setCell ⟨B, 7, none⟩ (.slice va m vc)) := by
  obtain ⟨b0, e0, b1, e1, b2, e2, b3, e3, b4, e4, b5, e5, b6, e6, ra, rc, h1, ⟨h2, h3, h4, h5, h6, h7, h8, h9⟩, g1, g2, g3, g4, g5, g6, g7⟩ := H
  obtain ⟨W, hW⟩ : ∃ x, x = w.setCell ⟨B, 7, none⟩ (.slice va m vc) := ⟨_, rfl⟩
  have hw : Writes B (B + 1) w W := by rw [hW]; exact (Writes.refl _ _ _).setCell (p := ⟨B, 7, none⟩) (Nat.le_refl _) (Nat.lt_succ_self _) _
  have hbx : BoxS W B (.int .i64 s.nx) (.slice b0 s.pn e0) (.slice b1 s.d.n e1) (.slice b2 s.d.m e2) (.slice b3 s.g.n1 e3) (.slice b4 s.g.n2 e4) (.slice b5 s.hn e5) (.slice va m vc) := by
    rw [hW]
    refine ⟨?_, ?_, ?_, ?_, ?_, ?_, ?_, ?_⟩ <;> simp [go_sem, *]
  have q8 : W.cell? ⟨B, 8, none⟩ = some (.slice ra n rc) := by rw [hW]; simp [go_sem, *]
  have q9 : W.cell? ⟨B, 9, none⟩ = some (.func (Fn.func 170) #[] #[]) := by rw [hW]; simp [go_sem, *]
  have qf : ∀ i, W.frozen? ⟨B, i, none⟩ = false := fun i => by rw [hW, World.frozen?_setCell]; exact g3 i
  rw [← hW]
  clear hW
  have hne : ∀ x, col x ≠ 0 → x < w.heap.size → W.heap[x]? = w.heap[x]? := fun x hx hl => hw.block x hl (by
    have : x ≠ B := fun e => by rw [e] at hx; exact hx g4
    omega)
  have hne2 : ∀ q, (Value.slice va m vc).ownBlock = some q → q ≠ B := fun q hq => (hc q (ho.lt q hq).1 (hoh q hq)).2
  have hcr : ∀ x, col x ≠ 0 → colr col l h 5 x = col x := fun x hx => by
    unfold colr
    rw [if_neg (fun c => hx (hc x c.1 c.2).1)]
  have p1 := g5.keep hw.size hne
  have p2 := p1.recol (col' := colr col l h 5) (fun x hx => by
    by_cases c : l ≤ x ∧ x < h
    · have := hw.size; omega
    · unfold colr at hx; rw [if_neg c] at hx; exact p1.hc x hx) hcr
  refine ⟨b0, e0, b1, e1, b2, e2, b3, e3, b4, e4, b5, e5, va, vc, ra, rc, h1, hbx, q8, q9, qf, ?_, ?_, ownsRow_of g6 fun q hq => hne q (by rw [g7 q hq]; omega) (g6.lt q hq).2, fun q hq => by rw [hcr q (by rw [g7 q hq]; omega)]; exact g7 q hq⟩
  · unfold colr
    by_cases c : l ≤ B ∧ B < h
    · exact absurd rfl (hc B c.1 c.2).2
    · rw [if_neg c]; exact g4
  · exact ⟨p2.hc, p2.ph, ⟨ownsRow_of (row_low ho hll) fun q hq => hw.block q (ho.lt q hq).2 (by have := hne2 q hq; omega), fun q hq => colr_new (ho.lt q hq).1 (hoh q hq)⟩, p2.pp, p2.pd, p2.pg⟩
theorem Wk.setHeld {s : Sto} {n : Nat} {xs : List Value} {lo : Nat} {col : Nat → Nat} {B l h m vc : Nat} {w : World} {va : Option Addr} {K V : Nat → Int} (H : Wk s n xs lo col B w) (hll : lo ≤ l) (hlh : l ≤ h) (hh : h ≤ w.heap.size) (hc : ∀ x, l ≤ x → x < h → col x = 0 ∧ x ≠ B) (ho : w.ownsRow l 124 2 (.slice va m vc) m (cbF K V m)) (hoh : ∀ q, (Value.slice va m vc).ownBlock = some q → q < h) :
    Wk (heS s m K V) n xs lo (colr col l h 4) B (w.setCell ⟨B, 6, none⟩ (.slice va m vc)) := by
  obtain ⟨b0, e0, b1, e1, b2, e2, b3, e3, b4, e4, b5, e5, b6, e6, ra, rc, h1, ⟨h2, h3, h4, h5, h6, h7, h8, h9⟩, g1, g2, g3, g4, g5, g6, g7⟩ := H
  obtain ⟨W, hW⟩ : ∃ x, x = w.setCell ⟨B, 6, none⟩ (.slice va m vc) := ⟨_, rfl⟩
  have hw : Writes B (B + 1) w W := by rw [hW]; exact (Writes.refl _ _ _).setCell (p := ⟨B, 6, none⟩) (Nat.le_refl _) (Nat.lt_succ_self _) _
  have hbx : BoxS W B (.int .i64 s.nx) (.slice b0 s.pn e0) (.slice b1 s.d.n e1) (.slice b2 s.d.m e2) (.slice b3 s.g.n1 e3) (.slice b4 s.g.n2 e4) (.slice va m vc) (.slice b6 s.on e6) := by
    rw [hW]
    refine ⟨?_, ?_, ?_, ?_, ?_, ?_, ?_, ?_⟩ <;> simp [go_sem, *]
  have q8 : W.cell? ⟨B, 8, none⟩ = some (.slice ra n rc) := by rw [hW]; simp [go_sem, *]
  have q9 : W.cell? ⟨B, 9, none⟩ = some (.func (Fn.func 170) #[] #[]) := by rw [hW]; simp [go_sem, *]
  have qf : ∀ i, W.frozen? ⟨B, i, none⟩ = false := fun i => by rw [hW, World.frozen?_setCell]; exact g3 i
  rw [← hW]
  clear hW
  have hne : ∀ x, col x ≠ 0 → x < w.heap.size → W.heap[x]? = w.heap[x]? := fun x hx hl => hw.block x hl (by
    have : x ≠ B := fun e => by rw [e] at hx; exact hx g4
    omega)
  have hne2 : ∀ q, (Value.slice va m vc).ownBlock = some q → q ≠ B := fun q hq => (hc q (ho.lt q hq).1 (hoh q hq)).2
  have hcr : ∀ x, col x ≠ 0 → colr col l h 4 x = col x := fun x hx => by
    unfold colr
    rw [if_neg (fun c => hx (hc x c.1 c.2).1)]
  have p1 := g5.keep hw.size hne
  have p2 := p1.recol (col' := colr col l h 4) (fun x hx => by
    by_cases c : l ≤ x ∧ x < h
    · have := hw.size; omega
    · unfold colr at hx; rw [if_neg c] at hx; exact p1.hc x hx) hcr
  refine ⟨b0, e0, b1, e1, b2, e2, b3, e3, b4, e4, va, vc, b6, e6, ra, rc, h1, hbx, q8, q9, qf, ?_, ?_, ownsRow_of g6 fun q hq => hne q (by rw [g7 q hq]; omega) (g6.lt q hq).2, fun q hq => by rw [hcr q (by rw [g7 q hq]; omega)]; exact g7 q hq⟩
  · unfold colr
    by_cases c : l ≤ B ∧ B < h
    · exact absurd rfl (hc B c.1 c.2).2
    · rw [if_neg c]; exact g4
  · exact ⟨p2.hc, ⟨ownsRow_of (row_low ho hll) fun q hq => hw.block q (ho.lt q hq).2 (by have := hne2 q hq; omega), fun q hq => colr_new (ho.lt q hq).1 (hoh q hq)⟩, p2.po, p2.pp, p2.pd, p2.pg⟩
theorem rf_end {k x : Int} (hk : k = 3 ∨ k = 4) (h : 1 ≤ x ∧ x ≤ 999) : rf k x 0 false 0 false 0 0 = 0 := by
  obtain ⟨h1, h2⟩ := h
  rcases hk with rfl | rfl <;> simp [rf, rng, frm, txb, inB, h1, h2, tnk]
theorem WkF.trans {col col1 : Nat → Nat} {B : Nat} {a b c : World} (h1 : WkF col B a b) (h2 : WkF col1 B b c) (hc : ∀ x, x < a.heap.size → col1 x ≠ 0 → col x ≠ 0) : WkF col B a c :=
  ⟨h2.os.trans h1.os, h2.tape.trans h1.tape, h2.output.trans h1.output, Nat.le_trans h1.size h2.size, fun x hx hn => (h2.block x (Nat.lt_of_lt_of_le hx h1.size) (fun q => hn (q.imp id (hc x hx)))).trans (h1.block x hx hn)⟩
theorem WkF.of_writes {col : Nat → Nat} {B : Nat} {w w' : World} (h : Writes B (B + 1) w w') : WkF col B w w' := ⟨h.os, h.tape, h.output, h.size, fun x hx hn => h.block x hx (by have : x ≠ B := fun e => hn (.inl e); omega)⟩
/-- A list is made and laid into the box: what may turn, and the colours. -/
theorem set_step {col : Nat → Nat} {B c : Nat} {w w1 : World} {p : Nat} {v : Value} {k5 : Nat} (hb : Below w.heap.size w w1) (hcol : ∀ x, col x ≠ 0 → x < w.heap.size) :
    WkF col B w (w1.setCell ⟨B, p, none⟩ v) ∧ ∀ x, x < w.heap.size → colr col w.heap.size w1.heap.size k5 x ≠ 0 → col x ≠ 0 :=
  ⟨(WkF.of_below hb).trans (WkF.of_writes (col := col) ((Writes.refl _ _ _).setCell (p := ⟨B, p, none⟩) (Nat.le_refl _) (Nat.lt_succ_self _) _)) (fun _ _ h => h), fun x hx q => by rw [colr_old hx] at q; exact q⟩
/-- What endOpen answers, and what it does to the copy. -/
def EoR (s : Sto) (n : Nat) (xs : List Value) (lo : Nat) (col : Nat → Nat) (B : Nat) (k x : Int) (w : World) (e : Ending) (w' : World) : Prop :=
  (4000 < s.g.n1 + s.g.n2 + 13 ∧ e = .returned (.int .i64 2) ∧ Below w.heap.size w w') ∨ (s.g.n1 + s.g.n2 + 13 ≤ 4000 ∧ e = .returned (.int .i64 0) ∧ ∃ col', (∀ x, x < w.heap.size → col' x ≠ 0 → col x ≠ 0) ∧ WkF col B w w' ∧ Wk (enS (lgS s (rb k x 0 false 0 false 0 0)) x) (n + 1) (xs ++ rv8 k x 0 false 0 false 0 0) lo col' B w')
set_option maxHeartbeats 16000000 in
theorem endOpen_any (s : Sto) (n : Nat) (xs : List Value) (lo : Nat) (col : Nat → Nat) (B : Nat) (k x : Int) (w : World) (hsz : s.g.n1 + s.g.n2 ≤ 4000) (hk : k = 3 ∨ k = 4) (hx : 1 ≤ x ∧ x ≤ 999) (hlg : lgC s.g = 0) (hby : LogByt s.g) (hn : n ≤ 90000) (hon : s.on ≤ 1048576) (hhn : s.hn ≤ 1048576) (H : Wk s n xs lo col B w) :
    Calls Tryz.prog 59 #[.pointer (some ⟨B, 0, none⟩), .int .i64 k, .int .i64 x] w (EoR s n xs lo col B k x w) := by
  have HWK : Hid (Wk s n xs lo col B w) := H
  have HLG : Hid (lgC s.g = 0) := hlg
  have HBY : Hid (LogByt s.g) := hby
  have HRF : Hid (rf k x 0 false 0 false 0 0 = 0) := rf_end hk hx
  have hmf : ∀ (fn : Fn) (first cap : Array Value) (w : World), (Instr.makeFunc fn first cap).run Tryz.prog w = .ok (.func fn first cap) w := fun _ _ _ _ => rfl
  obtain ⟨k1, k2, k3⟩ := H.lt
  clear hlg hby H hk hx
  go_enter Tryz.func59, Tryz.ntmps59
  go_wp2_with fail
  obtain ⟨W, hW⟩ : ∃ y, y = w.alloc (.cells #[.int .i64 x] 2) := ⟨_, rfl⟩
  have HB0 : Hid (Below w.heap.size w W) := by rw [hW]; exact below_new _ _
  have HWS : Hid (W.heap.size = w.heap.size + 1) := by rw [hW]; simp [Hid]
  have m0 : W.cell? ⟨w.heap.size, 0, none⟩ = some (.int .i64 x) := by rw [hW]; simp [go_sem]
  rw [← hW]
  clear hW
  have HKW : Hid (Wk s n xs lo col B W) := HWK.out.below HB0.out
  refine (tell_any s n xs lo col B k x 0 false 0 false 0 0 W hsz HLG.out HRF.out HBY.out hn HKW.out).mono ?_
  rintro e w1 (⟨hbig, rfl, hb1⟩ | ⟨hle, rfl, col1, hc1, hf1, hk1⟩)
  · have HE : Hid (∀ w', Below w.heap.size w w' → EoR s n xs lo col B k x w (.returned (.int .i64 2)) w') := fun w' hb => .inl ⟨hbig, rfl, hb⟩
    have HB1 : Hid (Below w.heap.size w w1) := below_then HB0.out hb1
    clear hb1 m0 hbig
    go_wp2_with fail
    go_ret
    exact HE.out _ (below_then HB1.out (below_new _ _))
  · have eN : w1.heap[w.heap.size]? = W.heap[w.heap.size]? := hf1.block _ (by have := HWS.out; omega) (fun q => by
      rcases q with q | q
      · omega
      · have := (k3 _ q).2; omega)
    have HX1 : Hid (w1.cell? ⟨w.heap.size, 0, none⟩ = some (.int .i64 x)) := (cellB eN).trans m0
    have HK1 : Hid (Wk (lgS s (rb k x 0 false 0 false 0 0)) (n + 1) (xs ++ rv8 k x 0 false 0 false 0 0) lo col1 B w1) := hk1
    have HF1 : Hid (WkF col B W w1) := hf1
    have HC1 : Hid (∀ x, x < W.heap.size → col1 x ≠ 0 → col x ≠ 0) := hc1
    have HLE : Hid (s.g.n1 + s.g.n2 + 13 ≤ 4000) := hle
    have HSZ1 : Hid (w.heap.size < w1.heap.size) := by have := HWS.out; have := hf1.size; show w.heap.size < w1.heap.size; omega
    clear hk1 hf1 hc1 eN m0 hle
    go_upto_region 5 with fail
    obtain ⟨U, hU⟩ : ∃ y, y = w1.alloc (.cells #[.int .i64 0, .int .i64 ((n : Int) + 1)] 77) := ⟨_, rfl⟩
    have HU : Hid (Below w1.heap.size w1 U) := by rw [hU]; exact below_new _ _
    rw [← hU]
    clear hU
    have HKU : Hid (Wk (lgS s (rb k x 0 false 0 false 0 0)) (n + 1) (xs ++ rv8 k x 0 false 0 false 0 0) lo col1 B U) := HK1.out.below HU.out
    have HXU : Hid (U.cell? ⟨w.heap.size, 0, none⟩ = some (.int .i64 x)) := cell_below HX1.out HU.out
    obtain ⟨b0, e0, b1, e1, b2, e2, b3, e3, b4, e4, b5, e5, b6, e6, ra1, rc1, hlo1, hbx1, -, -, hfz1, -, hpc1, -⟩ := HKU.out
    have HIO : Hid (InSt U b0 b1 b2 b3 b4 b5 b6 (lgS s (rb k x 0 false 0 false 0 0))) := hpc1.own.at
    have u7 : U.cell? ⟨B, 7, none⟩ = some (.slice b6 s.on e6) := hbx1.2.2.2.2.2.2.2
    have u6 : U.cell? ⟨B, 6, none⟩ = some (.slice b5 s.hn e5) := hbx1.2.2.2.2.2.2.1
    clear hpc1 hbx1
    go_wp2_with fail
    refine (withoutI_any s.on s.oF b6 e6 w.heap.size x U hon HXU.out HIO.out.2.2.2.2).mono ?_
    rintro e w2 ⟨v2, rfl, hb2, ho2⟩
    obtain ⟨va, vc, rfl, -⟩ := row_form ho2
    have HB2 : Hid (Below U.heap.size U w2) := hb2
    have HK2 : Hid (Wk (onS (lgS s (rb k x 0 false 0 false 0 0)) (flN s.oF x s.on) (flF s.oF s.oF x s.on)) (n + 1) (xs ++ rv8 k x 0 false 0 false 0 0) lo (colr col1 U.heap.size w2.heap.size 5) B (w2.setCell ⟨B, 7, none⟩ (.slice va (flN s.oF x s.on) vc))) := by
      have hl := HKU.out.lt
      exact Wk.setOpen (HKU.out.below hb2) (by omega) hb2.size (Nat.le_refl _) (fun y y1 y2 => ⟨by
        by_cases e : col1 y = 0
        · exact e
        · have := (hl.2.2 y e).2; omega, by have := hl.2.1; omega⟩) ho2 (fun q hq => (ho2.lt q hq).2)
    have HS2 : Hid (WkF col1 B U (w2.setCell ⟨B, 7, none⟩ (.slice va (flN s.oF x s.on) vc)) ∧ ∀ y, y < U.heap.size → colr col1 U.heap.size w2.heap.size 5 y ≠ 0 → col1 y ≠ 0) := set_step (c := 0) hb2 (fun y hy => (HKU.out.lt.2.2 y hy).2)
    have z7 := cell_below u7 hb2
    have z6 := cell_below u6 hb2
    have zf : ∀ i, w2.frozen? ⟨B, i, none⟩ = false := fun i => (hb2.frozen (p := ⟨B, i, none⟩) (show B < U.heap.size from HKU.out.lt.2.1)).trans (hfz1 i)
    have HX2 : Hid (w2.cell? ⟨w.heap.size, 0, none⟩ = some (.int .i64 x)) := cell_below HXU.out hb2
    clear hb2 ho2 u7 u6
    go_upto_region 6 with fail
    obtain ⟨Y, hY⟩ : ∃ y, y = w2.setCell ⟨B, 7, none⟩ (.slice va (flN s.oF x s.on) vc) := ⟨_, rfl⟩
    rw [← hY] at HK2 HS2 ⊢
    have y6 : Y.cell? ⟨B, 6, none⟩ = some (.slice b5 s.hn e5) := by rw [hY]; simp [go_sem, z6]
    have yf : ∀ i, Y.frozen? ⟨B, i, none⟩ = false := fun i => by rw [hY, World.frozen?_setCell]; exact zf i
    have HXY : Hid (Y.cell? ⟨w.heap.size, 0, none⟩ = some (.int .i64 x)) := by
      have := HX2.out
      rw [hY]
      show _ = _
      rw [World.cell?_setCell_far _ _ _ _ (by dsimp only; omega)]
      exact this
    clear hY z7 z6 zf
    obtain ⟨p0, q0, p1, q1, p2, q2, p3, q3, p4, q4, p5, q5, p6, q6, ra2, rc2, -, hbx2, -, -, -, -, hpc2, -⟩ := HK2.out
    have hp5 := hbx2.2.2.2.2.2.2.1
    rw [y6] at hp5
    injection hp5 with hp5
    injection hp5 with hp51 hp52 hp53
    have HIH : Hid (CellsAt Y b5 s.hn s.hK s.hV) := by
      have := hpc2.own.at.2.2.2.1
      rw [← hp51] at this
      exact this
    clear hbx2 hpc2 hp51 hp52 hp53
    go_wp2_with fail
    refine (withoutH_any s.hn s.hK s.hV b5 e5 w.heap.size x Y hhn HXY.out HIH.out).mono ?_
    rintro e w3 ⟨v3, rfl, hb3, ho3⟩
    obtain ⟨ca, cc, rfl, -⟩ := row_form ho3
    have HK3 : Hid (Wk (enS (lgS s (rb k x 0 false 0 false 0 0)) x) (n + 1) (xs ++ rv8 k x 0 false 0 false 0 0) lo (colr (colr col1 U.heap.size w2.heap.size 5) Y.heap.size w3.heap.size 4) B (w3.setCell ⟨B, 6, none⟩ (.slice ca (flN s.hK x s.hn) cc))) := by
      have hl := HK2.out.lt
      exact Wk.setHeld (HK2.out.below hb3) (by omega) hb3.size (Nat.le_refl _) (fun y y1 y2 => ⟨by
        by_cases e : colr col1 U.heap.size w2.heap.size 5 y = 0
        · exact e
        · have := (hl.2.2 y e).2; omega, by have := hl.2.1; omega⟩) ho3 (fun q hq => (ho3.lt q hq).2)
    have HS3 : Hid (WkF (colr col1 U.heap.size w2.heap.size 5) B Y (w3.setCell ⟨B, 6, none⟩ (.slice ca (flN s.hK x s.hn) cc)) ∧ ∀ y, y < Y.heap.size → colr (colr col1 U.heap.size w2.heap.size 5) Y.heap.size w3.heap.size 4 y ≠ 0 → colr col1 U.heap.size w2.heap.size 5 y ≠ 0) := set_step (c := 0) hb3 (fun y hy => (HK2.out.lt.2.2 y hy).2)
    have z6 := cell_below y6 hb3
    have zf : ∀ i, w3.frozen? ⟨B, i, none⟩ = false := fun i => (hb3.frozen (p := ⟨B, i, none⟩) (show B < Y.heap.size from HK2.out.lt.2.1)).trans (yf i)
    clear hb3 ho3 y6 yf
    have HEND : Hid (EoR s n xs lo col B k x w (.returned (.int .i64 0)) (w3.setCell ⟨B, 6, none⟩ (.slice ca (flN s.hK x s.hn) cc))) := by
      have s1 := HB0.out.size
      have s2 := HF1.out.size
      have s3 := HU.out.size
      have s4 := HS2.out.1.size
      refine .inr ⟨HLE.out, rfl, _, fun y hy q => ?_, ?_, HK3.out⟩
      · exact HC1.out y (by omega) (HS2.out.2 y (by omega) (HS3.out.2 y (by omega) q))
      · refine (WkF.of_below HB0.out).trans (col1 := col) ((HF1.out).trans (col1 := col1) ((WkF.of_below HU.out).trans (col1 := col1) (HS2.out.1.trans HS3.out.1 HS2.out.2) (fun _ _ h => h)) HC1.out) (fun _ _ h => h)
    go_wp2_with fail
    go_ret
    exact HEND.out
theorem lit_own0 (w : World) : (w.alloc (.cells #[] 2)).ownsRow w.heap.size 2 1 (.slice (some ⟨w.heap.size, 0, none⟩) 0 0) 0 [] :=
  World.ownsRow_made w #[] (e := 2) (size := 1) (base := w.heap.size) 0 (Nat.le_refl _) (by unfold maxLen; omega) rfl
theorem lit_own0H (w : World) : (w.alloc (.cells #[] 124)).ownsRow w.heap.size 124 2 (.slice (some ⟨w.heap.size, 0, none⟩) 0 0) 0 [] :=
  World.ownsRow_made w #[] (e := 124) (size := 2) (base := w.heap.size) 0 (Nat.le_refl _) (by unfold maxLen; omega) rfl
/-- What l12End does to the box B. -/
def EnR (n m : Nat) (F K V : Nat → Int) (x : Int) (B : Nat) (w : World) (e : Ending) (w' : World) : Prop :=
  e = .returned (.tuple #[]) ∧ ∃ w0 M va vc ca cc, Below w.heap.size w w0 ∧ w.heap.size ≤ M ∧ M ≤ w0.heap.size ∧ w0.ownsRow w.heap.size 2 1 (.slice va (flN F x n) vc) (flN F x n) (ivs (flF F F x n) (flN F x n)) ∧ (∀ q, (Value.slice va (flN F x n) vc).ownBlock = some q → q < M) ∧ w0.ownsRow M 124 2 (.slice ca (flN K x m) cc) (flN K x m) (cbF (flF K K x m) (flF K V x m) (flN K x m)) ∧ w' = (w0.setCell ⟨B, 7, none⟩ (.slice va (flN F x n) vc)).setCell ⟨B, 6, none⟩ (.slice ca (flN K x m) cc)
set_option maxHeartbeats 8000000 in
theorem l12End_any (n m : Nat) (F K V : Nat → Int) (x : Int) (B : Nat) (v0 v1 v2 v3 v4 v5 : Value) (b5 b6 : Option Addr) (e5 e6 : Nat) (w : World) (hn : n ≤ 90000) (hm : m ≤ 90000) (hbx : BoxS w B v0 v1 v2 v3 v4 v5 (.slice b5 m e5) (.slice b6 n e6)) (hf : ∀ i, w.frozen? ⟨B, i, none⟩ = false) (hO : IntsAt w b6 n F) (hH : CellsAt w b5 m K V) :
    Calls Tryz.prog 56 #[.pointer (some ⟨B, 0, none⟩), .int .i64 x] w (EnR n m F K V x B w) := by
  have HO : Hid (IntsAt w b6 n F) := hO
  have HH : Hid (CellsAt w b5 m K V) := hH
  have HF : Hid (∀ i, w.frozen? ⟨B, i, none⟩ = false) := hf
  have hB : B < w.heap.size := hbx.lt
  have H7 : Hid (w.cell? ⟨B, 7, none⟩ = some (.slice b6 n e6)) := hbx.2.2.2.2.2.2.2
  have H6 : Hid (w.cell? ⟨B, 6, none⟩ = some (.slice b5 m e5)) := hbx.2.2.2.2.2.2.1
  have H0 : Hid ((w.alloc (.cells #[] 2)).ownsRow w.heap.size 2 1 (.slice (some ⟨w.heap.size, 0, none⟩) 0 0) (flN F x 0) (ivs (flF F F x 0) (flN F x 0))) := lit_own0 w
  clear hO hH hf hbx
  go_enter Tryz.func56, Tryz.ntmps56
  go_wp2_with fail
  go_loopw [4, 5] (fun v i wr => ∃ k : Nat, k ≤ n ∧ i = .int .i64 k ∧ Hid (Below w.heap.size w wr) ∧ Hid (wr.ownsRow w.heap.size 2 1 v (flN F x k) (ivs (flF F F x k) (flN F x k)))) (fun _ i _ => n - (intOf i).toNat)
  case atStart => exact ⟨0, Nat.zero_le _, rfl, below_new _ _, H0⟩
  case round =>
    clear H0
    obtain ⟨k, hk, rfl, HB, HO1⟩ := hrel
    have r7 := cell_below H7.out HB.out
    by_cases hlt : k < n
    · have hlt' : (k : Int) < (n : Int) := by omega
      have hk0 : (0 : Int) ≤ (k : Int) := by omega
      rcases HO.out.below HB.out with h | ⟨bb, off, rfl, hl, hcc⟩
      · omega
      have x0 := hcc k hlt
      have hszr := HB.out.size
      have HLK : Hid (flN F x k ≤ 1100000) := by have := flN_le F x k; show _ ≤ _; omega
      clear hcc
      by_cases hst : F k = x
      · have e1 := fl_in (K := F) F hst
        have hst2 : (F k != x) = false := by simp [hst]
        clear hst
        go_wp2_with fail
        go_roundw
        case rel => exact ⟨k + 1, hlt, by go_num, HB, by rw [e1.1, e1.2]; exact HO1⟩
        case measure => simp [intOf]; omega
      · have E1 : Hid (flN F x (k + 1) = flN F x k + 1 ∧ flF F F x (k + 1) = apI (flF F F x k) (flN F x k) (F k)) := fl_out (K := F) F hst
        have hst2 : (F k != x) = true := by simp [hst]
        have HOA : Hid (∀ o1 : Obj, (wr.alloc o1).ownsRow w.heap.size 2 1 _ (flN F x k) (ivs (flF F F x k) (flN F x k))) := fun o1 => own_belowI HO1.out (below_new _ _)
        clear hst
        go_wp2_with (at_builtin; refine wpList_appOm _ rfl (.tmp 27) (.tmp 35) rfl w.heap.size _ (flN F x k) _ rfl (HOA.out _) wr.heap.size 1 (F k) rfl (by simp [go_sem]) HLK.out (by simp; omega) ?_)
        intro g cp w3 ho3 hg3 hl3
        have HB3 : Hid (Below w.heap.size w w3) := by
          refine (below_then HB.out (below_new _ _)).grown hg3 (by simp; omega) fun q hq => ?_
          exact (HO1.out.lt q hq).1
        have HO3 : Hid (w3.ownsRow w.heap.size 2 1 (.slice (some ⟨g, 0, none⟩) (flN F x k + 1) cp) (flN F x (k + 1)) (ivs (flF F F x (k + 1)) (flN F x (k + 1)))) := by
          show w3.ownsRow _ _ _ _ _ _
          rw [E1.out.1, E1.out.2, ← ivs_up]
          exact ho3
        clear ho3 hg3 hl3 x0 HOA E1 r7
        go_wp2_with fail
        go_roundw
        case rel => exact ⟨k + 1, hlt, by go_num, HB3, HO3⟩
        case measure => simp [intOf]; omega
    · obtain rfl : k = n := by omega
      have hnl : ¬ ((k : Int) < (k : Int)) := by omega
      obtain ⟨va, vc, rfl, -⟩ := row_form HO1.out
      obtain ⟨u, hu⟩ : ∃ y, y = wr := ⟨wr, rfl⟩
      rw [← hu] at HB HO1 r7 ⊢
      clear hu
      have HM0 : Hid ((u.alloc (.cells #[] 124)).ownsRow u.heap.size 124 2 (.slice (some ⟨u.heap.size, 0, none⟩) 0 0) (flN K x 0) (cbF (flF K K x 0) (flF K V x 0) (flN K x 0))) := lit_own0H u
      have HMO : Hid (u.ownsRow w.heap.size 2 1 (.slice va (flN F x k) vc) (flN F x k) (ivs (flF F F x k) (flN F x k))) := HO1.out
      have HQO : Hid (∀ q, (Value.slice va (flN F x k) vc).ownBlock = some q → q < u.heap.size) := fun q hq => (HO1.out.lt q hq).2
      have HFIN : Hid (∀ w0 ca cc, Below w.heap.size w w0 → u.heap.size ≤ w0.heap.size → w0.ownsRow w.heap.size 2 1 (.slice va (flN F x k) vc) (flN F x k) (ivs (flF F F x k) (flN F x k)) → w0.ownsRow u.heap.size 124 2 (.slice ca (flN K x m) cc) (flN K x m) (cbF (flF K K x m) (flF K V x m) (flN K x m)) → EnR k m F K V x B w (.returned (.tuple #[])) ((w0.setCell ⟨B, 7, none⟩ (.slice va (flN F x k) vc)).setCell ⟨B, 6, none⟩ (.slice ca (flN K x m) cc))) := fun w0 ca cc p1 p2 p3 p4 => ⟨rfl, w0, u.heap.size, va, vc, ca, cc, p1, HB.out.size, p2, p3, HQO.out, p4, rfl⟩
      generalize flN F x k = lenO at *
      generalize ivs (flF F F x k) lenO = lstO at *
      go_wp2_with fail
      go_loopw [6, 7] (fun v i wr => ∃ j : Nat, j ≤ m ∧ i = .int .i64 j ∧ Hid (Below u.heap.size u wr) ∧ Hid (wr.ownsRow u.heap.size 124 2 v (flN K x j) (cbF (flF K K x j) (flF K V x j) (flN K x j)))) (fun _ i _ => m - (intOf i).toNat)
      case atStart => exact ⟨0, Nat.zero_le _, rfl, below_new _ _, HM0⟩
      case round =>
        clear HM0
        obtain ⟨j, hj, rfl, HBr, HOr⟩ := hrel
        have HBw : Hid (Below w.heap.size w wr) := below_then HB.out HBr.out
        have r6 := cell_below H6.out HBw.out
        have r7 := cell_below H7.out HBw.out
        by_cases hlt : j < m
        · have hlt' : (j : Int) < (m : Int) := by omega
          have hj0 : (0 : Int) ≤ (j : Int) := by omega
          rcases HH.out.below HBw.out with h | ⟨bb, off, rfl, hl, hcc, hcv⟩
          · omega
          have x0 := hcc j hlt
          have x1 := hcv j hlt
          have hszr := HBr.out.size
          have HLK : Hid (flN K x j ≤ 1100000) := by have := flN_le K x j; show _ ≤ _; omega
          clear hcc hcv
          by_cases hst : K j = x
          · have e1 := fl_in (K := K) K hst
            have e2 := fl_in (K := K) V hst
            have hst2 : (K j != x) = false := by simp [hst]
            clear hst
            go_wp2_with fail
            go_roundw
            case rel => exact ⟨j + 1, hlt, by go_num, HBr, by rw [e1.1, e1.2, e2.2]; exact HOr⟩
            case measure => simp [intOf]; omega
          · have E1 : Hid (flN K x (j + 1) = flN K x j + 1 ∧ flF K K x (j + 1) = apI (flF K K x j) (flN K x j) (K j)) := fl_out (K := K) K hst
            have E2 : Hid (flN K x (j + 1) = flN K x j + 1 ∧ flF K V x (j + 1) = apI (flF K V x j) (flN K x j) (V j)) := fl_out (K := K) V hst
            have hst2 : (K j != x) = true := by simp [hst]
            have HOA : Hid (∀ o1 : Obj, (wr.alloc o1).ownsRow u.heap.size 124 2 _ (flN K x j) (cbF (flF K K x j) (flF K V x j) (flN K x j))) := fun o1 => own_belowI HOr.out (below_new _ _)
            clear hst
            go_wp2_with (at_builtin; refine wpList_appHe _ rfl (.tmp 57) (.tmp 65) rfl u.heap.size _ (flN K x j) _ rfl (HOA.out _) wr.heap.size 1 (K j) (V j) rfl (by simp [go_sem]) (by simp [go_sem]) HLK.out (by simp; omega) ?_)
            intro g cp w3 ho3 hg3 hl3
            have HB3 : Hid (Below u.heap.size u w3) := by
              refine (below_then HBr.out (below_new _ _)).grown hg3 (by simp; omega) fun q hq => ?_
              exact (HOr.out.lt q hq).1
            have HO3 : Hid (w3.ownsRow u.heap.size 124 2 (.slice (some ⟨g, 0, none⟩) (flN K x j + 1) cp) (flN K x (j + 1)) (cbF (flF K K x (j + 1)) (flF K V x (j + 1)) (flN K x (j + 1)))) := by
              show w3.ownsRow _ _ _ _ _ _
              rw [E2.out.2, E1.out.2, E1.out.1, ← cbF_up]
              exact ho3
            clear ho3 hg3 hl3 HOA E1 E2 r6 r7 x0 x1
            go_wp2_with fail
            go_roundw
            case rel => exact ⟨j + 1, hlt, by go_num, HB3, HO3⟩
            case measure => simp [intOf]; omega
        · obtain rfl : j = m := by omega
          have hnl2 : ¬ ((j : Int) < (j : Int)) := by omega
          obtain ⟨ca, cc, rfl, -⟩ := row_form HOr.out
          have rf : ∀ i, wr.frozen? ⟨B, i, none⟩ = false := fun i => (HBw.out.frozen (p := ⟨B, i, none⟩) (show B < w.heap.size from hB)).trans (HF.out i)
          have HMr : Hid (wr.ownsRow w.heap.size 2 1 (.slice va lenO vc) lenO lstO) := own_belowI HMO.out HBr.out
          have HSS : Hid (w.heap.size ≤ u.heap.size ∧ u.heap.size ≤ wr.heap.size) := ⟨HB.out.size, HBr.out.size⟩
          generalize flN K x j = lenH at *
          generalize cbF (flF K K x j) (flF K V x j) lenH = lstH at *
          clear HO1
          go_wp2_with fail
          go_end0
          exact HFIN.out wr ca cc HBw.out HSS.out.2 HMr.out HOr.out
theorem rcn_spec (z : Nat → Int) (n : Nat) : ∀ f k, n ≤ f + k → (∀ j, j < k → 13 * (j + 1) ≤ n ∧ okR (sh z (13 * j)) = true) → (∀ j, j < rcn z n f k → 13 * (j + 1) ≤ n ∧ okR (sh z (13 * j)) = true) ∧ ¬ (13 * (rcn z n f k + 1) ≤ n ∧ okR (sh z (13 * rcn z n f k)) = true)
  | 0, k, hf, h => by
    simp only [rcn]
    exact ⟨h, fun e => by omega⟩
  | f + 1, k, hf, h => by
    unfold rcn
    split
    · rename_i hh
      refine rcn_spec z n f (k + 1) (by omega) fun j hj => ?_
      by_cases e : j = k
      · subst e; exact hh
      · exact h j (by omega)
    · rename_i hh
      exact ⟨h, hh⟩
theorem cnt_spec (z : Nat → Int) (n : Nat) : (∀ j, j < cnt z n → 13 * (j + 1) ≤ n ∧ okR (sh z (13 * j)) = true) ∧ ¬ (13 * (cnt z n + 1) ≤ n ∧ okR (sh z (13 * cnt z n)) = true) :=
  rcn_spec z n n 0 (by omega) fun j hj => by omega
theorem num_eq {z y : Nat → Int} {i : Nat} : ∀ {m : Nat}, (∀ j, j < m → z (i + j) = y (i + j)) → num z i m = num y i m
  | 0, _ => rfl
  | m + 1, h => by simp only [num]; rw [num_eq (m := m) fun j hj => h j (by omega), h m (by omega)]
theorem okR_congr {z y : Nat → Int} (h : ∀ i, i < 13 → z i = y i) : okR z = okR y := by
  have n0 : num z 0 1 = num y 0 1 := num_eq fun j hj => h _ (by omega)
  have n1 : num z 1 2 = num y 1 2 := num_eq fun j hj => h _ (by omega)
  have n3 : num z 3 1 = num y 3 1 := num_eq fun j hj => h _ (by omega)
  have n5 : num z 5 2 = num y 5 2 := num_eq fun j hj => h _ (by omega)
  have n7 : num z 7 2 = num y 7 2 := num_eq fun j hj => h _ (by omega)
  have n9 : num z 9 2 = num y 9 2 := num_eq fun j hj => h _ (by omega)
  have h4 := h 4 (by omega)
  have e1 : hdB z = hdB y := by simp only [hdB, h4]
  have e2 : hsB z = hsB y := by simp only [hsB, h4]
  have e3 : zL z 13 = zL y 13 := by
    unfold zL
    exact List.map_congr_left fun i hi => h i (List.mem_range.1 hi)
  unfold okR rzF rzB
  rw [n0, n1, n3, n5, n7, n9, e1, e2, e3]
theorem zR_congr {z y : Nat → Int} (h : ∀ i, i < 13 → z i = y i) : zR z = zR y := by
  have n0 : num z 0 1 = num y 0 1 := num_eq fun j hj => h _ (by omega)
  have n1 : num z 1 2 = num y 1 2 := num_eq fun j hj => h _ (by omega)
  have n3 : num z 3 1 = num y 3 1 := num_eq fun j hj => h _ (by omega)
  have n5 : num z 5 2 = num y 5 2 := num_eq fun j hj => h _ (by omega)
  have n7 : num z 7 2 = num y 7 2 := num_eq fun j hj => h _ (by omega)
  have n9 : num z 9 2 = num y 9 2 := num_eq fun j hj => h _ (by omega)
  have h4 := h 4 (by omega)
  have e1 : hdB z = hdB y := by simp only [hdB, h4]
  have e2 : hsB z = hsB y := by simp only [hsB, h4]
  unfold zR
  rw [n0, n1, n3, n5, n7, n9, e1, e2]
/-- Of more bytes there are not fewer records. -/
theorem cnt_mono {z y : Nat → Int} {n m : Nat} (hm : n ≤ m) (h : ∀ i, i < n → z i = y i) : cnt z n ≤ cnt y m := by
  by_cases q : cnt z n ≤ cnt y m
  · exact q
  · exfalso
    have a := (cnt_spec z n).1 (cnt y m) (by omega)
    refine (cnt_spec y m).2 ⟨by omega, ?_⟩
    rw [← a.2]
    exact okR_congr fun i hi => (h _ (by omega)).symm
theorem zRs_congr {z y : Nat → Int} {n i : Nat} (h : ∀ i, i < n → z i = y i) (hi : 13 * (i + 1) ≤ n) : zRs z i = zRs y i := by
  unfold zRs
  exact zR_congr fun j hj => h _ (by omega)
theorem aZ_at (L : Lo) (i : Nat) (hi : i < L.n1 + L.n2) : aZ L i = if i < L.n1 then L.z1 i else L.z2 (i - L.n1) := by
  unfold aZ zOf aL
  by_cases h : i < L.n1
  · rw [if_pos h, List.getD_eq_getElem?_getD, List.getElem?_append_left (by rw [zL_len]; exact h)]
    simp [zL, h]
  · rw [if_neg h, List.getD_eq_getElem?_getD, List.getElem?_append_right (by rw [zL_len]; omega), zL_len]
    have : i - L.n1 < L.n2 := by omega
    simp [zL, this]
theorem byt_zOf {zs : List Int} (h : BytL zs) : Byt zs.length (zOf zs) := fun i hi => by
  have e : zOf zs i = zs[i] := by simp [zOf, hi]
  rw [e]
  exact h _ (List.getElem_mem hi)

def rbR (r : Rc) : List Int := rb r.k r.t r.key r.hd r.old r.hs r.nw r.bk
def rfR (r : Rc) : Int := rf r.k r.t r.key r.hd r.old r.hs r.nw r.bk
theorem rbR_len (r : Rc) : (rbR r).length = 13 := rb_len _ _ _ _ _ _ _ _
theorem zR_rb {r : Rc} (g : GoodR r.k r.t r.key r.hd r.old r.hs r.nw r.bk) : zR (zOf (rbR r)) = r := by
  obtain ⟨k, t, key, hd, old, hs, nw, bk⟩ := r
  obtain ⟨g1, g2, g3, g4, g5, g6⟩ := g
  dsimp only at g1 g2 g3 g4 g5 g6
  have z0 : zOf (rbR ⟨k, t, key, hd, old, hs, nw, bk⟩) 0 = k := by simp [zOf, rbR, rb, rbb, nb, byt]; omega
  have z1 : zOf (rbR ⟨k, t, key, hd, old, hs, nw, bk⟩) 1 = t / 256 % 256 := by simp [zOf, rbR, rb, rbb, nb, byt]
  have z2 : zOf (rbR ⟨k, t, key, hd, old, hs, nw, bk⟩) 2 = t % 256 := by simp [zOf, rbR, rb, rbb, nb, byt]
  have z3 : zOf (rbR ⟨k, t, key, hd, old, hs, nw, bk⟩) 3 = key := by simp [zOf, rbR, rb, rbb, nb, byt]; omega
  have z4 : zOf (rbR ⟨k, t, key, hd, old, hs, nw, bk⟩) 4 = fl hd hs := by
    have := fl_bd hd hs
    simp [zOf, rbR, rb, rbb, nb, byt]; omega
  have z5 : zOf (rbR ⟨k, t, key, hd, old, hs, nw, bk⟩) 5 = old / 256 % 256 := by simp [zOf, rbR, rb, rbb, nb, byt]
  have z6 : zOf (rbR ⟨k, t, key, hd, old, hs, nw, bk⟩) 6 = old % 256 := by simp [zOf, rbR, rb, rbb, nb, byt]
  have z7 : zOf (rbR ⟨k, t, key, hd, old, hs, nw, bk⟩) 7 = nw / 256 % 256 := by simp [zOf, rbR, rb, rbb, nb, byt]
  have z8 : zOf (rbR ⟨k, t, key, hd, old, hs, nw, bk⟩) 8 = nw % 256 := by simp [zOf, rbR, rb, rbb, nb, byt]
  have z9 : zOf (rbR ⟨k, t, key, hd, old, hs, nw, bk⟩) 9 = bk / 256 % 256 := by simp [zOf, rbR, rb, rbb, nb, byt]
  have z10 : zOf (rbR ⟨k, t, key, hd, old, hs, nw, bk⟩) 10 = bk % 256 := by simp [zOf, rbR, rb, rbb, nb, byt]
  generalize zOf (rbR ⟨k, t, key, hd, old, hs, nw, bk⟩) = z at *
  have e1 : num z 0 1 = k := by simp [num, z0]
  have e2 : num z 1 2 = t := by simp [num, z1, z2]; omega
  have e3 : num z 3 1 = key := by simp [num, z3]
  have e5 : num z 5 2 = old := by simp [num, z5, z6]; omega
  have e7 : num z 7 2 = nw := by simp [num, z7, z8]; omega
  have e9 : num z 9 2 = bk := by simp [num, z9, z10]; omega
  have eh : hdB z = hd := by unfold hdB; rw [z4]; cases hd <;> cases hs <;> rfl
  have es : hsB z = hs := by unfold hsB; rw [z4]; cases hd <;> cases hs <;> rfl
  unfold zR
  rw [e1, e2, e3, e5, e7, e9, eh, es]
theorem okR_rb {r : Rc} (h : rfR r = 0) : okR (zOf (rbR r)) = true := by
  have g := zR_rb (goodR_of _ _ _ _ _ _ _ _ h)
  have e1 : rzF (zOf (rbR r)) = rfR (zR (zOf (rbR r))) := rfl
  have e2 : rzB (zOf (rbR r)) = rbR (zR (zOf (rbR r))) := rfl
  have e3 : zL (zOf (rbR r)) 13 = rbR r := by
    have := zL_zOf (rbR r)
    rw [rbR_len] at this
    exact this
  unfold okR
  rw [e1, e2, g, h, e3]
  simp
def moreL (L : Lo) (r : Rc) : Lo := ⟨L.n1, L.z1, L.n2 + 13, zOf (zL L.z2 L.n2 ++ rbR r)⟩
theorem zOf_app_l {xs ys : List Int} {i : Nat} (h : i < xs.length) : zOf (xs ++ ys) i = zOf xs i := by
  simp [zOf, List.getElem?_append_left h]
theorem zOf_app_r {xs ys : List Int} {i : Nat} : zOf (xs ++ ys) (xs.length + i) = zOf ys i := by
  simp [zOf, List.getElem?_append_right]
theorem zOf_zL {z : Nat → Int} {n i : Nat} (h : i < n) : zOf (zL z n) i = z i := by
  simp [zOf, zL, h]
theorem more_old {L : Lo} {r : Rc} {i : Nat} (h : i < L.n1 + L.n2) : aZ (moreL L r) i = aZ L i := by
  rw [aZ_at (moreL L r) i (by show i < L.n1 + (L.n2 + 13); omega), aZ_at L i h]
  by_cases e : i < L.n1
  · rw [if_pos e]
    exact if_pos e
  · rw [if_neg e]
    refine (if_neg e).trans ?_
    show zOf (zL L.z2 L.n2 ++ rbR r) (i - L.n1) = _
    rw [zOf_app_l (by rw [zL_len]; omega), zOf_zL (by omega)]
theorem more_new {L : Lo} {r : Rc} {i : Nat} (h : i < 13) : aZ (moreL L r) (L.n1 + L.n2 + i) = zOf (rbR r) i := by
  rw [aZ_at (moreL L r) _ (by show L.n1 + L.n2 + i < L.n1 + (L.n2 + 13); omega)]
  refine (if_neg (by show ¬ L.n1 + L.n2 + i < L.n1; omega)).trans ?_
  show zOf (zL L.z2 L.n2 ++ rbR r) (L.n1 + L.n2 + i - L.n1) = _
  have e : L.n1 + L.n2 + i - L.n1 = (zL L.z2 L.n2).length + i := by rw [zL_len]; omega
  rw [e, zOf_app_r]
/-- A log with a record more. -/
theorem more_facts {L : Lo} {r : Rc} (hg : lgC L = 0) (hr : rfR r = 0) (hf : L.n1 + L.n2 + 13 ≤ 4000) :
    lgC (moreL L r) = 0 ∧ cnt (aZ (moreL L r)) (L.n1 + (L.n2 + 13)) = cnt (aZ L) (L.n1 + L.n2) + 1 ∧ (L.n1 + L.n2) / 13 = cnt (aZ L) (L.n1 + L.n2) ∧
    (∀ i, i < cnt (aZ L) (L.n1 + L.n2) → zRs (aZ (moreL L r)) i = zRs (aZ L) i) ∧ zRs (aZ (moreL L r)) (cnt (aZ L) (L.n1 + L.n2)) = r := by
  obtain ⟨g1, g2⟩ := lgC_zero hg
  have hsh : ∀ i, i < 13 → sh (aZ (moreL L r)) (13 * cnt (aZ L) (L.n1 + L.n2)) i = zOf (rbR r) i := fun i hi => by
    show aZ (moreL L r) (13 * cnt (aZ L) (L.n1 + L.n2) + i) = _
    rw [g2]
    exact more_new hi
  have hc : cnt (aZ (moreL L r)) (L.n1 + (L.n2 + 13)) = cnt (aZ L) (L.n1 + L.n2) + 1 := by
    have h1 := (cnt_spec (aZ (moreL L r)) (L.n1 + (L.n2 + 13))).2
    have h2 := cnt_le (aZ (moreL L r)) (L.n1 + (L.n2 + 13))
    have h3 : cnt (aZ L) (L.n1 + L.n2) ≤ cnt (aZ (moreL L r)) (L.n1 + (L.n2 + 13)) := cnt_mono (by omega) fun i hi => (more_old hi).symm
    by_cases e : cnt (aZ (moreL L r)) (L.n1 + (L.n2 + 13)) = cnt (aZ L) (L.n1 + L.n2)
    · rw [e] at h1
      refine absurd ⟨by omega, ?_⟩ h1
      rw [okR_congr hsh]
      exact okR_rb hr
    · omega
  refine ⟨?_, hc, by omega, fun i hi => zRs_congr (n := L.n1 + L.n2) (fun j hj => more_old hj) (by omega), ?_⟩
  · unfold lgC
    rw [if_neg (by show ¬ 4000 < L.n1 + (L.n2 + 13); omega)]
    show (if 13 * cnt (aZ (moreL L r)) (L.n1 + (L.n2 + 13)) = L.n1 + (L.n2 + 13) then (0 : Int) else 5) = 0
    rw [hc, if_pos (by omega)]
  · unfold zRs
    rw [zR_congr hsh]
    exact zR_rb (goodR_of _ _ _ _ _ _ _ _ hr)
theorem more_byt {L : Lo} {r : Rc} (h : LogByt L) : LogByt (moreL L r) := by
  refine ⟨h.p, ?_⟩
  have e : (zL L.z2 L.n2 ++ rbR r).length = L.n2 + 13 := by rw [List.length_append, zL_len, rbR_len]
  have hb : BytL (zL L.z2 L.n2 ++ rbR r) := BytL.app (fun x hx => by
    simp only [zL, List.mem_map, List.mem_range] at hx
    obtain ⟨i, hi, rfl⟩ := hx
    exact h.q i hi) (rb_byt _ _ _ _ _ _ _ _)
  have := byt_zOf hb
  rw [e] at this
  exact this
end Go.Proofs.YtannmobmmnoegaaGreat
