/- FnExactWriteDisk: the walk of the law. -/
import Derived.Test.YtmopoblladnjbaaSw2
import Derived.Test.YtmopoblladnjbaaPllaw
import Derived.Deep.DeepCutAuto
namespace Go.Proofs.Ytmopoblladnjbaa
open Go.RowKit Go.Deep
set_option linter.unusedVariables false
set_option maxRecDepth 20000

/-- What the first statement of a law over two arguments leaves: a box with an answer, and the answer's disk. -/
def REL (c : Int) (R : Dk) (w wx : World) (B : Nat) (a1 a2 : Option Addr) (c1 c2 : Nat) : Prop :=
  w.heap.size ≤ B ∧ Below w.heap.size w wx ∧ Box3 wx B (.int .i64 c) (.slice a1 R.n c1) (.slice a2 R.m c2) ∧ OwnR wx w.heap.size wx.heap.size a1 a2 R
theorem OwnD.toR {w : World} {lo hi : Nat} {a a' : Option Addr} {D : Dk} (h : OwnD w lo hi a a' D) : OwnR w lo hi a a' D := by
  obtain ⟨h0, l1, h1, l2, h2, k1, k2, k3, k4, k5, hp, hl⟩ := h
  exact ⟨hp.wide k1 k2 h0, hl.wide k3 k4 h0⟩
theorem fresh_box {W w' : World} {x y z : Value} {t : TypeId} (hb : Below (W.alloc (.cells #[x, y, z] t)).heap.size (W.alloc (.cells #[x, y, z] t)) w') :
    w'.cell? ⟨W.heap.size, 0, none⟩ = some x ∧ w'.cell? ⟨W.heap.size, 1, none⟩ = some y ∧ w'.cell? ⟨W.heap.size, 2, none⟩ = some z ∧ (∀ i, w'.frozen? ⟨W.heap.size, i, none⟩ = false) ∧ W.heap.size < w'.heap.size := by
  have bx := (Box3.new W x y z t).below hb
  have hl : W.heap.size < (W.alloc (.cells #[x, y, z] t)).heap.size := by rw [World.size_alloc]; omega
  exact ⟨bx.1, bx.2.1, bx.2.2, fun i => (hb.frozen (p := ⟨W.heap.size, i, none⟩) hl).trans (frozen_block (heap_alloc_last _ _)), Nat.lt_of_lt_of_le hl hb.size⟩
theorem fresh_boxd {W w' : World} {x y z : Value} {t : TypeId} (hb : Below (W.alloc (.cells #[x, y, z] t)).drew.heap.size (W.alloc (.cells #[x, y, z] t)).drew w') :
    w'.cell? ⟨W.heap.size, 0, none⟩ = some x ∧ w'.cell? ⟨W.heap.size, 1, none⟩ = some y ∧ w'.cell? ⟨W.heap.size, 2, none⟩ = some z ∧ (∀ i, w'.frozen? ⟨W.heap.size, i, none⟩ = false) ∧ W.heap.size < w'.heap.size :=
  fresh_box (((Below.refl _ _).drew).trans hb)
theorem carry_box {W w' : World} {B : Nat} {x y z : Value} (k0 : W.cell? ⟨B, 0, none⟩ = some x) (k1 : W.cell? ⟨B, 1, none⟩ = some y) (k2 : W.cell? ⟨B, 2, none⟩ = some z) (k3 : ∀ i, W.frozen? ⟨B, i, none⟩ = false) (hb : Below W.heap.size W w') :
    w'.cell? ⟨B, 0, none⟩ = some x ∧ w'.cell? ⟨B, 1, none⟩ = some y ∧ w'.cell? ⟨B, 2, none⟩ = some z ∧ (∀ i, w'.frozen? ⟨B, i, none⟩ = false) ∧ B < w'.heap.size := by
  have hl : B < W.heap.size := Go.block_lt_of_cell k0
  exact ⟨cell_below k0 hb, cell_below k1 hb, cell_below k2 hb, fun i => (hb.frozen (p := ⟨B, i, none⟩) hl).trans (k3 i), Nat.lt_of_lt_of_le hl hb.size⟩
theorem al_keep {w w3 : World} {o : Obj} (h : Below w.heap.size w w3) : Below w.heap.size w (w3.alloc o) := h.alloc h.size o
theorem keep_sets {w w2 wz : World} {B : Nat} {x y z c0 c1 c2 c3 c4 : Value} (hq : w.heap.size + 1 < w2.heap.size) (hB : w2.heap.size ≤ B) (h : Below w2.heap.size w2 wz) (h0 : wz.cell? ⟨w.heap.size, 0, none⟩ = some c0) (h1 : wz.cell? ⟨w.heap.size, 1, none⟩ = some c1) (h2 : wz.cell? ⟨w.heap.size + 1, 0, none⟩ = some c2) (h3 : wz.cell? ⟨w.heap.size + 1, 1, none⟩ = some c3) (h4 : wz.cell? ⟨w.heap.size + 1, 2, none⟩ = some c4) :
    (Below w2.heap.size w2 (((wz.setCell ⟨B, 0, none⟩ x).setCell ⟨B, 1, none⟩ y).setCell ⟨B, 2, none⟩ z) ∧ (((wz.setCell ⟨B, 0, none⟩ x).setCell ⟨B, 1, none⟩ y).setCell ⟨B, 2, none⟩ z).cell? ⟨w.heap.size, 0, none⟩ = some c0 ∧ (((wz.setCell ⟨B, 0, none⟩ x).setCell ⟨B, 1, none⟩ y).setCell ⟨B, 2, none⟩ z).cell? ⟨w.heap.size, 1, none⟩ = some c1 ∧ (((wz.setCell ⟨B, 0, none⟩ x).setCell ⟨B, 1, none⟩ y).setCell ⟨B, 2, none⟩ z).cell? ⟨w.heap.size + 1, 0, none⟩ = some c2 ∧ (((wz.setCell ⟨B, 0, none⟩ x).setCell ⟨B, 1, none⟩ y).setCell ⟨B, 2, none⟩ z).cell? ⟨w.heap.size + 1, 1, none⟩ = some c3 ∧ (((wz.setCell ⟨B, 0, none⟩ x).setCell ⟨B, 1, none⟩ y).setCell ⟨B, 2, none⟩ z).cell? ⟨w.heap.size + 1, 2, none⟩ = some c4) := by
  have e : ∀ b o v, b < B → wz.cell? ⟨b, o, none⟩ = some v → (((wz.setCell ⟨B, 0, none⟩ x).setCell ⟨B, 1, none⟩ y).setCell ⟨B, 2, none⟩ z).cell? ⟨b, o, none⟩ = some v := fun b o v hb h => by
    rw [setB (by omega), setB (by omega), setB (by omega)]; exact h
  exact ⟨((h.setCell (p := ⟨B, 0, none⟩) hB x).setCell (p := ⟨B, 1, none⟩) hB y).setCell (p := ⟨B, 2, none⟩) hB z, e _ _ _ (by omega) h0, e _ _ _ (by omega) h1, e _ _ _ (by omega) h2, e _ _ _ (by omega) h3, e _ _ _ (by omega) h4⟩
theorem rel_new {c : Int} {R : Dk} {w wz W3 : World} {a1 a2 : Option Addr} {c1 c2 : Nat} {t : TypeId} (hS : Below w.heap.size w wz) (hz : w.heap.size ≤ W3.heap.size) (hO : OwnR wz W3.heap.size wz.heap.size a1 a2 R) : REL c R w (wz.alloc (.cells #[.int .i64 c, .slice a1 R.n c1, .slice a2 R.m c2] t)) wz.heap.size a1 a2 c1 c2 :=
  ⟨hS.size, al_keep hS, Box3.new _ _ _ _ _, (hO.below (below_new _ _)).wide hz (by rw [World.size_alloc]; omega) (Nat.le_refl _)⟩
theorem rel_set {c : Int} {R : Dk} {w wz W3 : World} {B : Nat} {a1 a2 : Option Addr} {c1 c2 : Nat} {x y z : Value} (hS : Below w.heap.size w wz) (hz : w.heap.size ≤ W3.heap.size) (hO : OwnR wz W3.heap.size wz.heap.size a1 a2 R) (hB : w.heap.size ≤ B) (hB3 : B < W3.heap.size) (k0 : wz.cell? ⟨B, 0, none⟩ = some x) (k1 : wz.cell? ⟨B, 1, none⟩ = some y) (k2 : wz.cell? ⟨B, 2, none⟩ = some z) :
    REL c R w (((wz.setCell ⟨B, 0, none⟩ (.int .i64 c)).setCell ⟨B, 1, none⟩ (.slice a1 R.n c1)).setCell ⟨B, 2, none⟩ (.slice a2 R.m c2)) B a1 a2 c1 c2 := by
  have hw : Writes B (B + 1) wz (((wz.setCell ⟨B, 0, none⟩ (.int .i64 c)).setCell ⟨B, 1, none⟩ (.slice a1 R.n c1)).setCell ⟨B, 2, none⟩ (.slice a2 R.m c2)) :=
    Writes.setCell (Writes.setCell (Writes.setCell (Writes.refl _ _ _) (p := ⟨B, 0, none⟩) (Nat.le_refl _) (by show B < B + 1; omega) _) (p := ⟨B, 1, none⟩) (Nat.le_refl _) (by show B < B + 1; omega) _) (p := ⟨B, 2, none⟩) (Nat.le_refl _) (by show B < B + 1; omega) _
  refine ⟨hB, ((hS.setCell (p := ⟨B, 0, none⟩) hB _).setCell (p := ⟨B, 1, none⟩) hB _).setCell (p := ⟨B, 2, none⟩) hB _, ⟨?_, ?_, ?_⟩, (hO.writes hw (.inr (by omega))).wide hz hw.size (Nat.le_refl _)⟩
  · rw [setO (by omega), setO (by omega)]; exact setS k0
  · rw [setO (by omega)]; exact setS ((setO (by omega)).trans k1)
  · exact setS ((setO (by omega)).trans ((setO (by omega)).trans k2))
set_option maxHeartbeats 16000000 in
theorem writeLaw_small (D : Dk) (a a' : Option Addr) (cap cap' : Nat) (idn lsn : Int) (pn : Nat) (K V : Nat → Int) (pa : Option Addr) (pcap : Nat) (w : World) (hn : D.n ≤ 9223372036854775807) (hL : ∀ i, i < D.n → D.L i ≤ 9223372036854775807) (hm : D.m ≤ 9223372036854775807) (hM : ∀ i, i < D.m → D.M i ≤ 9223372036854775807) (HA0 : DiskAt w a a' D) (hpn : pn ≤ 9223372036854775807) (HC0 : CellsAt w pa pn K V)
    (c : Int) (R : Dk) (hR : Small R)
    (HP : Hid (∀ (a a' : Option Addr) (b : Nat) (w : World), DiskAt w a a' D → CellsAt w (some ⟨b, 0, none⟩) pn K V → Calls Try.prog 52 #[.agg #[.slice a D.n D.n, .slice a' D.m D.m], .agg #[.int .i64 idn, .int .i64 lsn, .slice (some ⟨b, 0, none⟩) pn pn]] w fun e w' => ∃ a a' cap cap', e = .returned (.agg #[.int .i64 c, .slice a R.n cap, .slice a' R.m cap']) ∧ Below w.heap.size w w' ∧ OwnR w' w.heap.size w'.heap.size a a' R))
    (HQ : Hid (∀ (a a' : Option Addr) (b : Nat) (w : World), DiskAt w a a' D → CellsAt w (some ⟨b, 0, none⟩) pn K V → Calls Try.prog 54 #[.agg #[.slice a D.n D.n, .slice a' D.m D.m], .agg #[.int .i64 idn, .int .i64 lsn, .slice (some ⟨b, 0, none⟩) pn pn]] w fun e w' => ∃ a a' cap cap', e = .returned (.agg #[.int .i64 c, .slice a R.n cap, .slice a' R.m cap']) ∧ Below w.heap.size w w' ∧ OwnD w' w.heap.size w'.heap.size a a' R)) :
    Calls Try.prog 8 #[.agg #[.slice a D.n cap, .slice a' D.m cap'], .agg #[.int .i64 idn, .int .i64 lsn, .slice pa pn pcap]] w fun e w' => e = .returned (.bool true) ∧ Below w.heap.size w w' := by
  go_enter Try.func8, Try.ntmps8
  go_wp2_with fail
  have hb0 : ∀ o1 o2, Below w.heap.size w ((w.alloc o1).alloc o2) := fun o1 o2 => ((Below.refl _ _).alloc (Nat.le_refl _) _).alloc (by simp) _
  refine (szDisk_any D.n D.m D.L D.Z D.P D.T D.M D.Y a a' cap cap' _ hn hL hm hM (HA0.1.below (hb0 _ _)) (HA0.2.below (hb0 _ _))).mono ?_
  rintro e w1 ⟨hb, r, rfl, hr⟩
  have hB : Below w.heap.size w w1 := below_then (hb0 _ _) hb
  rcases hr with rfl | ⟨hr0, hr1⟩
  · go_wp2_with fail
    go_ret
    exact ⟨rfl, hB⟩
  have HS : Small D := small_of (by omega)
  have BA := ((Box2.new w (.slice a D.n cap) (.slice a' D.m cap') 73).alloc (.cells #[.int .i64 idn, .int .i64 lsn, .slice pa pn pcap] 49)).below hb
  have BP : Box3 w1 (w.heap.size + 1) (.int .i64 idn) (.int .i64 lsn) (.slice pa pn pcap) := by
    have h := (Box3.new (w.alloc (.cells #[.slice a D.n cap, .slice a' D.m cap'] 73)) (.int .i64 idn) (.int .i64 lsn) (.slice pa pn pcap) 49).below hb
    rw [World.size_alloc] at h
    exact h
  have HA := HA0.below hB
  have HC := HC0.below hB
  have sw1 : Hid (w.heap.size + 1 < w1.heap.size) := by have hq := hb.size; simp at hq; show w.heap.size + 1 < w1.heap.size; omega
  have hneg : ¬ (r < 0) := by omega
  have hr2 : r ≤ 1048576 := by omega
  clear hb hr1 hn hm hL hM hb0
  have TP := BP
  obtain ⟨qP0, qP1, qP2⟩ := TP
  go_wp2_with fail
  refine (szPage_x idn lsn pn pa pcap r w1 hpn hr0 hr2).mono ?_
  rintro e w2 ⟨hb, r2, rfl, hr⟩
  clear qP0 qP1 qP2
  replace hB := below_then hB hb
  replace BA := BA.below hb
  replace BP := BP.below hb
  replace HA := HA.below hb
  replace HC := HC.below hb
  have sw2 : Hid (w1.heap.size ≤ w2.heap.size) := by have hq := hb.size; show w1.heap.size ≤ w2.heap.size; omega
  clear hb
  rcases hr with rfl | ⟨hr3, hr4⟩
  · go_wp2_with fail
    go_ret
    exact ⟨rfl, hB⟩
  have hpn2 : pn ≤ 1048576 := by omega
  have hneg4 : ¬ (r2 < 0) := by omega
  clear hr3 hr4 hr0 hr2
  have hneg2 : ¬ ((1 : Int) + (tot D : Int) + (pn : Int) * 2 < 0) := by omega
  have hneg3 : ¬ ((1 : Int) + (tot R : Int) < 0) := by omega
  have HTD : Hid (tot D ≤ 4194304) := tot_le HS
  have HQr : Hid (∀ (a a' : Option Addr) (b : Nat) (w : World), DiskAt w a a' D → CellsAt w (some ⟨b, 0, none⟩) pn K V → Calls Try.prog 54 #[.agg #[.slice a D.n D.n, .slice a' D.m D.m], .agg #[.int .i64 idn, .int .i64 lsn, .slice (some ⟨b, 0, none⟩) pn pn]] w fun e w' => ∃ a a' cap cap', e = .returned (.agg #[.int .i64 c, .slice a R.n cap, .slice a' R.m cap']) ∧ Below w.heap.size w w' ∧ OwnR w' w.heap.size w'.heap.size a a' R) := fun a a' b w h h3 => (HQ.out a a' b w h h3).mono fun e w' ⟨a1, a2, c1, c2, e1, e2, e3⟩ => ⟨a1, a2, c1, c2, e1, e2, e3.toR⟩
  have TA := BA
  obtain ⟨qA0, qA1⟩ := TA
  have TP := BP
  obtain ⟨qP0, qP1, qP2⟩ := TP
  go_upto_region 8 with fail
  go_cut [6] (fun s0 wx => ∃ (B : Nat) (a1 a2 : Option Addr) (c1 c2 : Nat), s0 = .pointer (some ⟨B, 0, none⟩) ∧ Hid (REL c R w2 wx B a1 a2 c1 c2))
  case first =>
    have hb0 : Below w2.heap.size w2 w2.drew := (Below.refl _ _).drew
    have hb1 : ∀ o, Below w2.heap.size w2 (w2.alloc o).drew := fun o => (below_new _ _).drew
    have hq9 : w.heap.size + 1 < w2.heap.size := by have t0 := sw1.out; have t1 := sw2.out; omega
    go_region_held3 (fun w' => Below w2.heap.size w2 w' ∧ w'.cell? ⟨w.heap.size, 0, none⟩ = some (.slice a D.n cap) ∧ w'.cell? ⟨w.heap.size, 1, none⟩ = some (.slice a' D.m cap') ∧ w'.cell? ⟨w.heap.size + 1, 0, none⟩ = some (.int .i64 idn) ∧ w'.cell? ⟨w.heap.size + 1, 1, none⟩ = some (.int .i64 lsn) ∧ w'.cell? ⟨w.heap.size + 1, 2, none⟩ = some (.slice pa pn pcap)) (first | exact ⟨al_keep (by assumption), cell_alloc (by assumption) _, cell_alloc (by assumption) _, cell_alloc (by assumption) _, cell_alloc (by assumption) _, cell_alloc (by assumption) _⟩ | exact keep_sets hq9 (by first | exact Nat.le_refl _ | exact Below.size (by assumption)) (by assumption) (by assumption) (by assumption) (by assumption) (by assumption) (by assumption) | go_keep)
      (first | (go_at_call 53; refine (toDisk_any D a a' cap cap' _ HS (HA.below (by first | exact hb0 | exact hb1 _))).mono ?_; rintro e wq ⟨bq, bq2, rfl, hbq, hoq⟩; obtain ⟨hc1, hf1⟩ := bcell hbq; have hs1 := hbq.size; (try simp only [drew_size, Nat.add_one_le_iff] at hs1); have hU := below_then (w := w2) (by first | exact hb0 | exact hb1 _) hbq; have hU0 := cell_below (B := w.heap.size) (o := 0) (v := .slice a D.n cap) (by first | assumption | exact cell_alloc (by assumption) _ | simp [*]) hbq; have hU1 := cell_below (B := w.heap.size) (o := 1) (v := .slice a' D.m cap') (by first | assumption | exact cell_alloc (by assumption) _ | simp [*]) hbq; have hU2 := cell_below (B := w.heap.size + 1) (o := 0) (v := .int .i64 idn) (by first | assumption | exact cell_alloc (by assumption) _ | simp [*]) hbq; have hU3 := cell_below (B := w.heap.size + 1) (o := 1) (v := .int .i64 lsn) (by first | assumption | exact cell_alloc (by assumption) _ | simp [*]) hbq; have hU4 := cell_below (B := w.heap.size + 1) (o := 2) (v := .slice pa pn pcap) (by first | assumption | exact cell_alloc (by assumption) _ | simp [*]) hbq) | (go_at_call 34; refine (toPage_any idn lsn pn K V pa pcap _ (by omega) (HC.below (by first | exact hU | exact al_keep hU))).mono ?_; rintro e wp ⟨bp, rfl, hbp, hop⟩; obtain ⟨hc2, hf2⟩ := bcell hbp; have hs2 := hbp.size; (try simp only [World.size_alloc, Nat.add_one_le_iff] at hs2); have hs9 : ∀ b, b < wq.heap.size → b < wp.heap.size := fun b hb => (by have hq := hbp.size; (try simp only [World.size_alloc] at hq); omega); have hT := below_then (w := w2) (by first | exact hU | exact al_keep hU) hbp; have hT0 := cell_below (B := w.heap.size) (o := 0) (v := .slice a D.n cap) (by first | exact hU0 | exact cell_alloc hU0 _) hbp; have hT1 := cell_below (B := w.heap.size) (o := 1) (v := .slice a' D.m cap') (by first | exact hU1 | exact cell_alloc hU1 _) hbp; have hT2 := cell_below (B := w.heap.size + 1) (o := 0) (v := .int .i64 idn) (by first | exact hU2 | exact cell_alloc hU2 _) hbp; have hT3 := cell_below (B := w.heap.size + 1) (o := 1) (v := .int .i64 lsn) (by first | exact hU3 | exact cell_alloc hU3 _) hbp; have hT4 := cell_below (B := w.heap.size + 1) (o := 2) (v := .slice pa pn pcap) (by first | exact hU4 | exact cell_alloc hU4 _) hbp) | (go_at_call 52; refine (HP.out _ _ _ _ (by first | exact hoq.at.below hbp | exact (hoq.at.below hbp).below (below_new _ _) | exact (hoq.at.below (below_new _ _)).below hbp) (by first | exact hop.at | exact hop.at.below (below_new _ _))).mono ?_; rintro e wz ⟨aw, aw2, cw, cw2, rfl, hbz, OZ⟩; obtain ⟨hc3, hf3⟩ := bcell hbz; have hs3 := hbz.size; (try simp only [World.size_alloc, Nat.add_one_le_iff] at hs3); have hS := below_then (w := w2) (by first | exact hT | exact al_keep hT) hbz; have hS0 := cell_below (B := w.heap.size) (o := 0) (v := .slice a D.n cap) (by first | exact hT0 | exact cell_alloc hT0 _) hbz; have hS1 := cell_below (B := w.heap.size) (o := 1) (v := .slice a' D.m cap') (by first | exact hT1 | exact cell_alloc hT1 _) hbz; have hS2 := cell_below (B := w.heap.size + 1) (o := 0) (v := .int .i64 idn) (by first | exact hT2 | exact cell_alloc hT2 _) hbz; have hS3 := cell_below (B := w.heap.size + 1) (o := 1) (v := .int .i64 lsn) (by first | exact hT3 | exact cell_alloc hT3 _) hbz; have hS4 := cell_below (B := w.heap.size + 1) (o := 2) (v := .slice pa pn pcap) (by first | exact hT4 | exact cell_alloc hT4 _) hbz))
    all_goals
      go_wp2_with fail
      go_meet
    · exact ⟨_, aw, aw2, cw, cw2, rfl, rel_new hS hT.size OZ⟩
    · obtain ⟨k0, k1, k2, _, _⟩ := fresh_box hbz
      exact ⟨_, aw, aw2, cw, cw2, rfl, rel_set hS (by rw [World.size_alloc]; have := hT.size; omega) OZ hT.size (by rw [World.size_alloc]; omega) k0 k1 k2⟩
    · obtain ⟨k0, k1, k2, k3, k4⟩ := fresh_box hbp
      obtain ⟨m0, m1, m2, _, _⟩ := carry_box k0 k1 k2 k3 hbz
      exact ⟨_, aw, aw2, cw, cw2, rfl, rel_set hS hT.size OZ hU.size k4 m0 m1 m2⟩
    · obtain ⟨k0, k1, k2, k3, k4⟩ := fresh_boxd hbq
      obtain ⟨m0, m1, m2, m3, m4⟩ := carry_box k0 k1 k2 k3 hbp
      obtain ⟨n0, n1, n2, _, _⟩ := carry_box m0 m1 m2 m3 hbz
      exact ⟨_, aw, aw2, cw, cw2, rfl, rel_set hS hT.size OZ (Nat.le_refl _) m4 n0 n1 n2⟩
  case rest =>
  obtain ⟨bW, aw, aw2, cw, cw2, rfl, HRL⟩ := hcut
  obtain ⟨w3, hw9⟩ : ∃ x, x = wc := ⟨wc, rfl⟩
  subst hw9
  obtain ⟨hbW, hS, BW, OW⟩ := HRL.out
  have sbW : Hid (bW < w3.heap.size) := BW.lt
  clear HRL
  clear qA0 qA1 qP0 qP1 qP2
  replace hB := below_then hB hS
  replace BA := BA.below hS
  replace BP := BP.below hS
  replace HA := HA.below hS
  replace HC := HC.below hS
  have sw3 : Hid (w2.heap.size ≤ w3.heap.size) := by have hq := hS.size; show w2.heap.size ≤ w3.heap.size; omega
  clear hS
  have TA := BA
  obtain ⟨qA0, qA1⟩ := TA
  go_wp2_with fail
  refine (toDisk_any D a a' cap cap' _ HS HA).mono ?_
  rintro e w4 ⟨bx, bx2, rfl, hb, ho⟩
  clear qA0 qA1
  replace hB := below_then hB hb
  replace BA := BA.below hb
  replace BP := BP.below hb
  replace BW := BW.below hb
  replace OW := OW.below hb
  replace HA := HA.below hb
  replace HC := HC.below hb
  have sw4 : Hid (w3.heap.size ≤ w4.heap.size) := by have hq := hb.size; show w3.heap.size ≤ w4.heap.size; omega
  have OX : OwnD w4 w3.heap.size w4.heap.size _ _ D := ho.wide (Nat.le_refl _) (Nat.le_refl _) (Nat.le_refl _)
  clear ho
  clear hb
  have TP := BP
  obtain ⟨qP0, qP1, qP2⟩ := TP
  have rP0 := fun o : Obj => cell_alloc qP0 o
  have rP1 := fun o : Obj => cell_alloc qP1 o
  have rP2 := fun o : Obj => cell_alloc qP2 o
  go_wp2_with fail
  refine (toPage_any idn lsn pn K V pa pcap _ (by omega) (HC.below (below_new _ _))).mono ?_
  rintro e w5 ⟨by1, rfl, hb, ho⟩
  clear qP0 qP1 qP2 rP0 rP1 rP2
  replace hB := below_then hB (below_then (below_new _ _) hb)
  replace BA := (BA.alloc _).below hb
  replace BP := (BP.alloc _).below hb
  replace BW := (BW.alloc _).below hb
  have BX := (Box2.new w4 (.slice (some ⟨bx, 0, none⟩) D.n D.n) (.slice (some ⟨bx2, 0, none⟩) D.m D.m) 64).below hb
  replace OW := (OW.below (below_new _ _)).below hb
  replace OX := (OX.below (below_new _ _)).below hb
  replace HA := (HA.below (below_new _ _)).below hb
  replace HC := (HC.below (below_new _ _)).below hb
  have sw5 : Hid (w4.heap.size < w5.heap.size) := by have hq := hb.size; simp at hq; show w4.heap.size < w5.heap.size; omega
  have OY : Own w5 (w4.heap.size + 1) w5.heap.size _ pn K V := ho.wide (by simp) (Nat.le_refl _) (Nat.le_refl _)
  clear ho
  clear hb
  have TX := BX
  obtain ⟨qX0, qX1⟩ := TX
  have rX0 := fun o : Obj => cell_alloc qX0 o
  have rX1 := fun o : Obj => cell_alloc qX1 o
  go_wp2_with fail
  refine (HQ.out _ _ _ _ (OX.at.below (below_new _ _)) (OY.at.below (below_new _ _))).mono ?_
  rintro e w6 ⟨ag, ag2, cg, cg2, rfl, hb, ho⟩
  clear qX0 qX1 rX0 rX1
  replace hB := below_then hB (below_then (below_new _ _) hb)
  replace BA := (BA.alloc _).below hb
  replace BP := (BP.alloc _).below hb
  replace BW := (BW.alloc _).below hb
  replace BX := (BX.alloc _).below hb
  have BY := (Box3.new w5 (.int .i64 idn) (.int .i64 lsn) (.slice (some ⟨by1, 0, none⟩) pn pn) 27).below hb
  replace OW := (OW.below (below_new _ _)).below hb
  replace OX := (OX.below (below_new _ _)).below hb
  replace OY := (OY.below (below_new _ _)).below hb
  replace HA := (HA.below (below_new _ _)).below hb
  replace HC := (HC.below (below_new _ _)).below hb
  have sw6 : Hid (w5.heap.size < w6.heap.size) := by have hq := hb.size; simp at hq; show w5.heap.size < w6.heap.size; omega
  have OG : OwnD w6 (w5.heap.size + 1) w6.heap.size _ _ R := ho.wide (by simp) (Nat.le_refl _) (Nat.le_refl _)
  clear ho
  clear hb
  have TW := BW
  obtain ⟨qW0, qW1, qW2⟩ := TW
  have rW0 := fun o : Obj => cell_alloc qW0 o
  have rW1 := fun o : Obj => cell_alloc qW1 o
  have rW2 := fun o : Obj => cell_alloc qW2 o
  go_wp2_with fail
  refine (eqDiskResult_same c R ag ag2 aw aw2 cg cg2 cw cw2 _ hR (OG.at.below (below_new _ _)) (OW.at.below (below_new _ _))).mono ?_
  rintro e w7 ⟨rfl, hb⟩
  clear qW0 qW1 qW2 rW0 rW1 rW2
  replace hB := below_then hB (below_then (below_new _ _) hb)
  replace BA := (BA.alloc _).below hb
  replace BP := (BP.alloc _).below hb
  replace BW := (BW.alloc _).below hb
  replace BX := (BX.alloc _).below hb
  replace BY := (BY.alloc _).below hb
  have BG := (Box3.new w6 (.int .i64 c) (.slice ag R.n cg) (.slice ag2 R.m cg2) 66).below hb
  replace OW := (OW.below (below_new _ _)).below hb
  replace OX := (OX.below (below_new _ _)).below hb
  replace OY := (OY.below (below_new _ _)).below hb
  replace OG := (OG.below (below_new _ _)).below hb
  replace HA := (HA.below (below_new _ _)).below hb
  replace HC := (HC.below (below_new _ _)).below hb
  have sw7 : Hid (w6.heap.size < w7.heap.size) := by have hq := hb.size; simp at hq; show w6.heap.size < w7.heap.size; omega
  clear hb
  have TX := BX
  obtain ⟨qX0, qX1⟩ := TX
  have TA := BA
  obtain ⟨qA0, qA1⟩ := TA
  go_wp2_with fail
  have hb0 : Below w7.heap.size w7 w7.drew := (Below.refl _ _).drew
  go_region_held3 (fun w' => Below w7.heap.size w7 w' ∧ w'.cell? ⟨w4.heap.size, 0, none⟩ = some (.slice (some ⟨bx, 0, none⟩) D.n D.n) ∧ w'.cell? ⟨w4.heap.size, 1, none⟩ = some (.slice (some ⟨bx2, 0, none⟩) D.m D.m) ∧ w'.cell? ⟨w.heap.size, 0, none⟩ = some (.slice a D.n cap) ∧ w'.cell? ⟨w.heap.size, 1, none⟩ = some (.slice a' D.m cap')) (go_keep)
    (first | (go_at_call 53; refine (toDisk_any D a a' cap cap' _ HS (HA.below (by simp [*]))).mono ?_; rintro e wq ⟨bq, bq2, rfl, hbq, hoq⟩; have hU := below_then (w := w7) (by simp [*]) hbq; have hU0 := cell_below (B := w4.heap.size) (o := 0) (v := .slice (some ⟨bx, 0, none⟩) D.n D.n) (by simp [*]) hbq; have hU1 := cell_below (B := w4.heap.size) (o := 1) (v := .slice (some ⟨bx2, 0, none⟩) D.m D.m) (by simp [*]) hbq; have hU2 := cell_below (B := w.heap.size) (o := 0) (v := .slice a D.n cap) (by simp [*]) hbq; have hU3 := cell_below (B := w.heap.size) (o := 1) (v := .slice a' D.m cap') (by simp [*]) hbq) | (go_at_call 55; refine (eqDisk_same D _ _ _ _ D.n D.m D.n D.m _ HS (OX.at.below (by simp [*])) hoq.at).mono ?_; rintro e w8 ⟨rfl, hbz⟩; have hS := below_then (w := w7) (by simp [*]) hbz; have hS0 := cell_below (B := w4.heap.size) (o := 0) (v := .slice (some ⟨bx, 0, none⟩) D.n D.n) (by simp [*]) hbz; have hS1 := cell_below (B := w4.heap.size) (o := 1) (v := .slice (some ⟨bx2, 0, none⟩) D.m D.m) (by simp [*]) hbz; have hS2 := cell_below (B := w.heap.size) (o := 0) (v := .slice a D.n cap) (by simp [*]) hbz; have hS3 := cell_below (B := w.heap.size) (o := 1) (v := .slice a' D.m cap') (by simp [*]) hbz))
  clear qX0 qX1 qA0 qA1
  clear hb0 hU hU0 hU1 hU2 hU3 hS0 hS1 hS2 hS3 hbq hoq hbz
  replace hB := below_then hB hS
  replace BA := BA.below hS
  replace BP := BP.below hS
  replace BW := BW.below hS
  replace BX := BX.below hS
  replace BY := BY.below hS
  replace BG := BG.below hS
  replace OW := OW.below hS
  replace OX := OX.below hS
  replace OY := OY.below hS
  replace OG := OG.below hS
  replace HA := HA.below hS
  replace HC := HC.below hS
  have sw8 : Hid (w7.heap.size ≤ w8.heap.size) := by have hq := hS.size; show w7.heap.size ≤ w8.heap.size; omega
  clear hS
  have TY := BY
  obtain ⟨qY0, qY1, qY2⟩ := TY
  have TP := BP
  obtain ⟨qP0, qP1, qP2⟩ := TP
  go_wp2_with fail
  have hb0 : Below w8.heap.size w8 w8.drew := (Below.refl _ _).drew
  go_region_held3 (fun w' => Below w8.heap.size w8 w' ∧ w'.cell? ⟨w5.heap.size, 0, none⟩ = some (.int .i64 idn) ∧ w'.cell? ⟨w5.heap.size, 1, none⟩ = some (.int .i64 lsn) ∧ w'.cell? ⟨w5.heap.size, 2, none⟩ = some (.slice (some ⟨by1, 0, none⟩) pn pn) ∧ w'.cell? ⟨w.heap.size + 1, 0, none⟩ = some (.int .i64 idn) ∧ w'.cell? ⟨w.heap.size + 1, 1, none⟩ = some (.int .i64 lsn) ∧ w'.cell? ⟨w.heap.size + 1, 2, none⟩ = some (.slice pa pn pcap)) (go_keep)
    (first | (go_at_call 34; refine (toPage_any idn lsn pn K V pa pcap _ (by omega) (HC.below (by simp [*]))).mono ?_; rintro e wq ⟨bq, rfl, hbq, hoq⟩; have hU := below_then (w := w8) (by simp [*]) hbq; have hU0 := cell_below (B := w5.heap.size) (o := 0) (v := .int .i64 idn) (by simp [*]) hbq; have hU1 := cell_below (B := w5.heap.size) (o := 1) (v := .int .i64 lsn) (by simp [*]) hbq; have hU2 := cell_below (B := w5.heap.size) (o := 2) (v := .slice (some ⟨by1, 0, none⟩) pn pn) (by simp [*]) hbq; have hU3 := cell_below (B := w.heap.size + 1) (o := 0) (v := .int .i64 idn) (by simp [*]) hbq; have hU4 := cell_below (B := w.heap.size + 1) (o := 1) (v := .int .i64 lsn) (by simp [*]) hbq; have hU5 := cell_below (B := w.heap.size + 1) (o := 2) (v := .slice pa pn pcap) (by simp [*]) hbq) | (go_at_call 36; refine (eqPage_same idn lsn pn K V _ _ pn pn _ (by omega) (OY.at.below (by simp [*])) hoq.at).mono ?_; rintro e w9 ⟨rfl, hbz⟩; have hS := below_then (w := w8) (by simp [*]) hbz; have hS0 := cell_below (B := w5.heap.size) (o := 0) (v := .int .i64 idn) (by simp [*]) hbz; have hS1 := cell_below (B := w5.heap.size) (o := 1) (v := .int .i64 lsn) (by simp [*]) hbz; have hS2 := cell_below (B := w5.heap.size) (o := 2) (v := .slice (some ⟨by1, 0, none⟩) pn pn) (by simp [*]) hbz; have hS3 := cell_below (B := w.heap.size + 1) (o := 0) (v := .int .i64 idn) (by simp [*]) hbz; have hS4 := cell_below (B := w.heap.size + 1) (o := 1) (v := .int .i64 lsn) (by simp [*]) hbz; have hS5 := cell_below (B := w.heap.size + 1) (o := 2) (v := .slice pa pn pcap) (by simp [*]) hbz))
  clear qY0 qY1 qY2 qP0 qP1 qP2
  clear hb0 hU hU0 hU1 hU2 hU3 hU4 hU5 hS0 hS1 hS2 hS3 hS4 hS5 hbq hoq hbz
  replace hB := below_then hB hS
  replace BA := BA.below hS
  replace BP := BP.below hS
  replace BW := BW.below hS
  replace BX := BX.below hS
  replace BY := BY.below hS
  replace BG := BG.below hS
  replace OW := OW.below hS
  replace OX := OX.below hS
  replace OY := OY.below hS
  replace OG := OG.below hS
  replace HA := HA.below hS
  replace HC := HC.below hS
  have sw9 : Hid (w8.heap.size ≤ w9.heap.size) := by have hq := hS.size; show w8.heap.size ≤ w9.heap.size; omega
  clear hS
  have TX := BX
  obtain ⟨qX0, qX1⟩ := TX
  go_wp2_with fail
  refine (markDisk_any D _ _ D.n D.m w3.heap.size w4.heap.size 1 _ HS (by omega) (by omega) OX).mono ?_
  rintro e w10 ⟨rfl, hw, hox⟩
  clear qX0 qX1
  replace hB := Writes.below hB hw (by have t0 := sw1.out; have t1 := sw2.out; have t2 := sw3.out; have t3 := sbW.out; have t4 := sw4.out; have t5 := sw5.out; have t6 := sw6.out; have t7 := sw7.out; have t8 := sw8.out; have t9 := sw9.out; omega)
  replace BA := BA.writes hw (by have t0 := sw1.out; have t1 := sw2.out; have t2 := sw3.out; have t3 := sbW.out; have t4 := sw4.out; have t5 := sw5.out; have t6 := sw6.out; have t7 := sw7.out; have t8 := sw8.out; have t9 := sw9.out; omega)
  replace BP := BP.writes hw (by have t0 := sw1.out; have t1 := sw2.out; have t2 := sw3.out; have t3 := sbW.out; have t4 := sw4.out; have t5 := sw5.out; have t6 := sw6.out; have t7 := sw7.out; have t8 := sw8.out; have t9 := sw9.out; omega)
  replace BW := BW.writes hw (by have t0 := sw1.out; have t1 := sw2.out; have t2 := sw3.out; have t3 := sbW.out; have t4 := sw4.out; have t5 := sw5.out; have t6 := sw6.out; have t7 := sw7.out; have t8 := sw8.out; have t9 := sw9.out; omega)
  replace BX := BX.writes hw (by have t0 := sw1.out; have t1 := sw2.out; have t2 := sw3.out; have t3 := sbW.out; have t4 := sw4.out; have t5 := sw5.out; have t6 := sw6.out; have t7 := sw7.out; have t8 := sw8.out; have t9 := sw9.out; omega)
  replace BY := BY.writes hw (by have t0 := sw1.out; have t1 := sw2.out; have t2 := sw3.out; have t3 := sbW.out; have t4 := sw4.out; have t5 := sw5.out; have t6 := sw6.out; have t7 := sw7.out; have t8 := sw8.out; have t9 := sw9.out; omega)
  replace BG := BG.writes hw (by have t0 := sw1.out; have t1 := sw2.out; have t2 := sw3.out; have t3 := sbW.out; have t4 := sw4.out; have t5 := sw5.out; have t6 := sw6.out; have t7 := sw7.out; have t8 := sw8.out; have t9 := sw9.out; omega)
  replace OW := OW.writes hw (by have t0 := sw1.out; have t1 := sw2.out; have t2 := sw3.out; have t3 := sbW.out; have t4 := sw4.out; have t5 := sw5.out; have t6 := sw6.out; have t7 := sw7.out; have t8 := sw8.out; have t9 := sw9.out; omega)
  replace OY := OY.writes hw (by have t0 := sw1.out; have t1 := sw2.out; have t2 := sw3.out; have t3 := sbW.out; have t4 := sw4.out; have t5 := sw5.out; have t6 := sw6.out; have t7 := sw7.out; have t8 := sw8.out; have t9 := sw9.out; omega)
  replace OG := OG.writes hw (by have t0 := sw1.out; have t1 := sw2.out; have t2 := sw3.out; have t3 := sbW.out; have t4 := sw4.out; have t5 := sw5.out; have t6 := sw6.out; have t7 := sw7.out; have t8 := sw8.out; have t9 := sw9.out; omega)
  replace HA := HA0.below hB
  replace HC := HC0.below hB
  have sw10 : Hid (w9.heap.size ≤ w10.heap.size) := by have hq := hw.size; show w9.heap.size ≤ w10.heap.size; omega
  clear hw
  clear hox OX
  have TY := BY
  obtain ⟨qY0, qY1, qY2⟩ := TY
  go_wp2_with fail
  refine (markPage_x idn lsn pn K V _ pn (w4.heap.size + 1) w5.heap.size (1 + tot D) _ (by omega) (by omega) (by have := HTD.out; omega) OY).mono ?_
  rintro e w11 ⟨rfl, hw⟩
  clear qY0 qY1 qY2
  replace hB := Writes.below hB hw (by have t0 := sw1.out; have t1 := sw2.out; have t2 := sw3.out; have t3 := sbW.out; have t4 := sw4.out; have t5 := sw5.out; have t6 := sw6.out; have t7 := sw7.out; have t8 := sw8.out; have t9 := sw9.out; have t10 := sw10.out; omega)
  replace BA := BA.writes hw (by have t0 := sw1.out; have t1 := sw2.out; have t2 := sw3.out; have t3 := sbW.out; have t4 := sw4.out; have t5 := sw5.out; have t6 := sw6.out; have t7 := sw7.out; have t8 := sw8.out; have t9 := sw9.out; have t10 := sw10.out; omega)
  replace BP := BP.writes hw (by have t0 := sw1.out; have t1 := sw2.out; have t2 := sw3.out; have t3 := sbW.out; have t4 := sw4.out; have t5 := sw5.out; have t6 := sw6.out; have t7 := sw7.out; have t8 := sw8.out; have t9 := sw9.out; have t10 := sw10.out; omega)
  replace BW := BW.writes hw (by have t0 := sw1.out; have t1 := sw2.out; have t2 := sw3.out; have t3 := sbW.out; have t4 := sw4.out; have t5 := sw5.out; have t6 := sw6.out; have t7 := sw7.out; have t8 := sw8.out; have t9 := sw9.out; have t10 := sw10.out; omega)
  replace BX := BX.writes hw (by have t0 := sw1.out; have t1 := sw2.out; have t2 := sw3.out; have t3 := sbW.out; have t4 := sw4.out; have t5 := sw5.out; have t6 := sw6.out; have t7 := sw7.out; have t8 := sw8.out; have t9 := sw9.out; have t10 := sw10.out; omega)
  replace BY := BY.writes hw (by have t0 := sw1.out; have t1 := sw2.out; have t2 := sw3.out; have t3 := sbW.out; have t4 := sw4.out; have t5 := sw5.out; have t6 := sw6.out; have t7 := sw7.out; have t8 := sw8.out; have t9 := sw9.out; have t10 := sw10.out; omega)
  replace BG := BG.writes hw (by have t0 := sw1.out; have t1 := sw2.out; have t2 := sw3.out; have t3 := sbW.out; have t4 := sw4.out; have t5 := sw5.out; have t6 := sw6.out; have t7 := sw7.out; have t8 := sw8.out; have t9 := sw9.out; have t10 := sw10.out; omega)
  replace OW := OW.writes hw (by have t0 := sw1.out; have t1 := sw2.out; have t2 := sw3.out; have t3 := sbW.out; have t4 := sw4.out; have t5 := sw5.out; have t6 := sw6.out; have t7 := sw7.out; have t8 := sw8.out; have t9 := sw9.out; have t10 := sw10.out; omega)
  replace OG := OG.writes hw (by have t0 := sw1.out; have t1 := sw2.out; have t2 := sw3.out; have t3 := sbW.out; have t4 := sw4.out; have t5 := sw5.out; have t6 := sw6.out; have t7 := sw7.out; have t8 := sw8.out; have t9 := sw9.out; have t10 := sw10.out; omega)
  replace HA := HA0.below hB
  replace HC := HC0.below hB
  have sw11 : Hid (w10.heap.size ≤ w11.heap.size) := by have hq := hw.size; show w10.heap.size ≤ w11.heap.size; omega
  clear hw
  clear OY
  have TG := BG
  obtain ⟨qG0, qG1, qG2⟩ := TG
  have TW := BW
  obtain ⟨qW0, qW1, qW2⟩ := TW
  go_wp2_with fail
  refine (eqDiskResult_same c R ag ag2 aw aw2 cg cg2 cw cw2 _ hR OG.at OW.at).mono ?_
  rintro e w12 ⟨rfl, hb⟩
  clear qG0 qG1 qG2 qW0 qW1 qW2
  replace hB := below_then hB hb
  replace BA := BA.below hb
  replace BP := BP.below hb
  replace BW := BW.below hb
  replace BX := BX.below hb
  replace BY := BY.below hb
  replace BG := BG.below hb
  replace OW := OW.below hb
  replace OG := OG.below hb
  replace HA := HA.below hb
  replace HC := HC.below hb
  have sw12 : Hid (w11.heap.size ≤ w12.heap.size) := by have hq := hb.size; show w11.heap.size ≤ w12.heap.size; omega
  clear hb
  have TG := BG
  obtain ⟨qG0, qG1, qG2⟩ := TG
  go_wp2_with fail
  refine (markDiskResult_any c R _ _ cg cg2 (w5.heap.size + 1) w6.heap.size _ hR OG).mono ?_
  rintro e w13 ⟨rfl, hw, hog⟩
  clear qG0 qG1 qG2
  replace hB := Writes.below hB hw (by have t0 := sw1.out; have t1 := sw2.out; have t2 := sw3.out; have t3 := sbW.out; have t4 := sw4.out; have t5 := sw5.out; have t6 := sw6.out; have t7 := sw7.out; have t8 := sw8.out; have t9 := sw9.out; have t10 := sw10.out; have t11 := sw11.out; have t12 := sw12.out; omega)
  replace BA := BA.writes hw (by have t0 := sw1.out; have t1 := sw2.out; have t2 := sw3.out; have t3 := sbW.out; have t4 := sw4.out; have t5 := sw5.out; have t6 := sw6.out; have t7 := sw7.out; have t8 := sw8.out; have t9 := sw9.out; have t10 := sw10.out; have t11 := sw11.out; have t12 := sw12.out; omega)
  replace BP := BP.writes hw (by have t0 := sw1.out; have t1 := sw2.out; have t2 := sw3.out; have t3 := sbW.out; have t4 := sw4.out; have t5 := sw5.out; have t6 := sw6.out; have t7 := sw7.out; have t8 := sw8.out; have t9 := sw9.out; have t10 := sw10.out; have t11 := sw11.out; have t12 := sw12.out; omega)
  replace BW := BW.writes hw (by have t0 := sw1.out; have t1 := sw2.out; have t2 := sw3.out; have t3 := sbW.out; have t4 := sw4.out; have t5 := sw5.out; have t6 := sw6.out; have t7 := sw7.out; have t8 := sw8.out; have t9 := sw9.out; have t10 := sw10.out; have t11 := sw11.out; have t12 := sw12.out; omega)
  replace BX := BX.writes hw (by have t0 := sw1.out; have t1 := sw2.out; have t2 := sw3.out; have t3 := sbW.out; have t4 := sw4.out; have t5 := sw5.out; have t6 := sw6.out; have t7 := sw7.out; have t8 := sw8.out; have t9 := sw9.out; have t10 := sw10.out; have t11 := sw11.out; have t12 := sw12.out; omega)
  replace BY := BY.writes hw (by have t0 := sw1.out; have t1 := sw2.out; have t2 := sw3.out; have t3 := sbW.out; have t4 := sw4.out; have t5 := sw5.out; have t6 := sw6.out; have t7 := sw7.out; have t8 := sw8.out; have t9 := sw9.out; have t10 := sw10.out; have t11 := sw11.out; have t12 := sw12.out; omega)
  replace BG := BG.writes hw (by have t0 := sw1.out; have t1 := sw2.out; have t2 := sw3.out; have t3 := sbW.out; have t4 := sw4.out; have t5 := sw5.out; have t6 := sw6.out; have t7 := sw7.out; have t8 := sw8.out; have t9 := sw9.out; have t10 := sw10.out; have t11 := sw11.out; have t12 := sw12.out; omega)
  replace OW := OW.writes hw (by have t0 := sw1.out; have t1 := sw2.out; have t2 := sw3.out; have t3 := sbW.out; have t4 := sw4.out; have t5 := sw5.out; have t6 := sw6.out; have t7 := sw7.out; have t8 := sw8.out; have t9 := sw9.out; have t10 := sw10.out; have t11 := sw11.out; have t12 := sw12.out; omega)
  replace HA := HA0.below hB
  replace HC := HC0.below hB
  have sw13 : Hid (w12.heap.size ≤ w13.heap.size) := by have hq := hw.size; show w12.heap.size ≤ w13.heap.size; omega
  clear hw
  clear OG
  have OG := hog
  clear hog
  have TG := BG
  obtain ⟨qG0, qG1, qG2⟩ := TG
  go_wp2_with fail
  refine (heldDiskResult_any c R _ _ cg cg2 _ hR OG.at).mono ?_
  rintro e w14 ⟨rfl, hb⟩
  clear qG0 qG1 qG2
  replace hB := below_then hB hb
  replace BA := BA.below hb
  replace BP := BP.below hb
  replace BW := BW.below hb
  replace BX := BX.below hb
  replace BY := BY.below hb
  replace BG := BG.below hb
  replace OW := OW.below hb
  replace OG := OG.below hb
  replace HA := HA.below hb
  replace HC := HC.below hb
  have sw14 : Hid (w13.heap.size ≤ w14.heap.size) := by have hq := hb.size; show w13.heap.size ≤ w14.heap.size; omega
  clear hb
  have TA := BA
  obtain ⟨qA0, qA1⟩ := TA
  have TP := BP
  obtain ⟨qP0, qP1, qP2⟩ := TP
  go_upto_region 31 with fail
  go_cut [13] (fun s0 wx => ∃ (B : Nat) (a1 a2 : Option Addr) (c1 c2 : Nat), s0 = .pointer (some ⟨B, 0, none⟩) ∧ Hid (REL c R w14 wx B a1 a2 c1 c2))
  case first =>
    have hb0 : Below w14.heap.size w14 w14.drew := (Below.refl _ _).drew
    have hb1 : ∀ o, Below w14.heap.size w14 (w14.alloc o).drew := fun o => (below_new _ _).drew
    have hq9 : w.heap.size + 1 < w14.heap.size := by have t0 := sw1.out; have t1 := sw2.out; have t2 := sw3.out; have t3 := sbW.out; have t4 := sw4.out; have t5 := sw5.out; have t6 := sw6.out; have t7 := sw7.out; have t8 := sw8.out; have t9 := sw9.out; have t10 := sw10.out; have t11 := sw11.out; have t12 := sw12.out; have t13 := sw13.out; have t14 := sw14.out; omega
    go_region_held3 (fun w' => Below w14.heap.size w14 w' ∧ w'.cell? ⟨w.heap.size, 0, none⟩ = some (.slice a D.n cap) ∧ w'.cell? ⟨w.heap.size, 1, none⟩ = some (.slice a' D.m cap') ∧ w'.cell? ⟨w.heap.size + 1, 0, none⟩ = some (.int .i64 idn) ∧ w'.cell? ⟨w.heap.size + 1, 1, none⟩ = some (.int .i64 lsn) ∧ w'.cell? ⟨w.heap.size + 1, 2, none⟩ = some (.slice pa pn pcap)) (first | exact ⟨al_keep (by assumption), cell_alloc (by assumption) _, cell_alloc (by assumption) _, cell_alloc (by assumption) _, cell_alloc (by assumption) _, cell_alloc (by assumption) _⟩ | exact keep_sets hq9 (by first | exact Nat.le_refl _ | exact Below.size (by assumption)) (by assumption) (by assumption) (by assumption) (by assumption) (by assumption) (by assumption) | go_keep)
      (first | (go_at_call 53; refine (toDisk_any D a a' cap cap' _ HS (HA.below (by first | exact hb0 | exact hb1 _))).mono ?_; rintro e wq ⟨bq, bq2, rfl, hbq, hoq⟩; obtain ⟨hc1, hf1⟩ := bcell hbq; have hs1 := hbq.size; (try simp only [drew_size, Nat.add_one_le_iff] at hs1); have hU := below_then (w := w14) (by first | exact hb0 | exact hb1 _) hbq; have hU0 := cell_below (B := w.heap.size) (o := 0) (v := .slice a D.n cap) (by first | assumption | exact cell_alloc (by assumption) _ | simp [*]) hbq; have hU1 := cell_below (B := w.heap.size) (o := 1) (v := .slice a' D.m cap') (by first | assumption | exact cell_alloc (by assumption) _ | simp [*]) hbq; have hU2 := cell_below (B := w.heap.size + 1) (o := 0) (v := .int .i64 idn) (by first | assumption | exact cell_alloc (by assumption) _ | simp [*]) hbq; have hU3 := cell_below (B := w.heap.size + 1) (o := 1) (v := .int .i64 lsn) (by first | assumption | exact cell_alloc (by assumption) _ | simp [*]) hbq; have hU4 := cell_below (B := w.heap.size + 1) (o := 2) (v := .slice pa pn pcap) (by first | assumption | exact cell_alloc (by assumption) _ | simp [*]) hbq) | (go_at_call 34; refine (toPage_any idn lsn pn K V pa pcap _ (by omega) (HC.below (by first | exact hU | exact al_keep hU))).mono ?_; rintro e wp ⟨bp, rfl, hbp, hop⟩; obtain ⟨hc2, hf2⟩ := bcell hbp; have hs2 := hbp.size; (try simp only [World.size_alloc, Nat.add_one_le_iff] at hs2); have hs9 : ∀ b, b < wq.heap.size → b < wp.heap.size := fun b hb => (by have hq := hbp.size; (try simp only [World.size_alloc] at hq); omega); have hT := below_then (w := w14) (by first | exact hU | exact al_keep hU) hbp; have hT0 := cell_below (B := w.heap.size) (o := 0) (v := .slice a D.n cap) (by first | exact hU0 | exact cell_alloc hU0 _) hbp; have hT1 := cell_below (B := w.heap.size) (o := 1) (v := .slice a' D.m cap') (by first | exact hU1 | exact cell_alloc hU1 _) hbp; have hT2 := cell_below (B := w.heap.size + 1) (o := 0) (v := .int .i64 idn) (by first | exact hU2 | exact cell_alloc hU2 _) hbp; have hT3 := cell_below (B := w.heap.size + 1) (o := 1) (v := .int .i64 lsn) (by first | exact hU3 | exact cell_alloc hU3 _) hbp; have hT4 := cell_below (B := w.heap.size + 1) (o := 2) (v := .slice pa pn pcap) (by first | exact hU4 | exact cell_alloc hU4 _) hbp) | (go_at_call 54; refine (HQr.out _ _ _ _ (by first | exact hoq.at.below hbp | exact (hoq.at.below hbp).below (below_new _ _) | exact (hoq.at.below (below_new _ _)).below hbp) (by first | exact hop.at | exact hop.at.below (below_new _ _))).mono ?_; rintro e wz ⟨ah, ah2, ch, ch2, rfl, hbz, OZ⟩; obtain ⟨hc3, hf3⟩ := bcell hbz; have hs3 := hbz.size; (try simp only [World.size_alloc, Nat.add_one_le_iff] at hs3); have hS := below_then (w := w14) (by first | exact hT | exact al_keep hT) hbz; have hS0 := cell_below (B := w.heap.size) (o := 0) (v := .slice a D.n cap) (by first | exact hT0 | exact cell_alloc hT0 _) hbz; have hS1 := cell_below (B := w.heap.size) (o := 1) (v := .slice a' D.m cap') (by first | exact hT1 | exact cell_alloc hT1 _) hbz; have hS2 := cell_below (B := w.heap.size + 1) (o := 0) (v := .int .i64 idn) (by first | exact hT2 | exact cell_alloc hT2 _) hbz; have hS3 := cell_below (B := w.heap.size + 1) (o := 1) (v := .int .i64 lsn) (by first | exact hT3 | exact cell_alloc hT3 _) hbz; have hS4 := cell_below (B := w.heap.size + 1) (o := 2) (v := .slice pa pn pcap) (by first | exact hT4 | exact cell_alloc hT4 _) hbz))
    all_goals
      go_wp2_with fail
      go_meet
    · exact ⟨_, ah, ah2, ch, ch2, rfl, rel_new hS hT.size OZ⟩
    · obtain ⟨k0, k1, k2, _, _⟩ := fresh_box hbz
      exact ⟨_, ah, ah2, ch, ch2, rfl, rel_set hS (by rw [World.size_alloc]; have := hT.size; omega) OZ hT.size (by rw [World.size_alloc]; omega) k0 k1 k2⟩
    · obtain ⟨k0, k1, k2, k3, k4⟩ := fresh_box hbp
      obtain ⟨m0, m1, m2, _, _⟩ := carry_box k0 k1 k2 k3 hbz
      exact ⟨_, ah, ah2, ch, ch2, rfl, rel_set hS hT.size OZ hU.size k4 m0 m1 m2⟩
    · obtain ⟨k0, k1, k2, k3, k4⟩ := fresh_boxd hbq
      obtain ⟨m0, m1, m2, m3, m4⟩ := carry_box k0 k1 k2 k3 hbp
      obtain ⟨n0, n1, n2, _, _⟩ := carry_box m0 m1 m2 m3 hbz
      exact ⟨_, ah, ah2, ch, ch2, rfl, rel_set hS hT.size OZ (Nat.le_refl _) m4 n0 n1 n2⟩
  case rest =>
  obtain ⟨bH, ah, ah2, ch, ch2, rfl, HRL⟩ := hcut
  obtain ⟨w15, hw9⟩ : ∃ x, x = wc := ⟨wc, rfl⟩
  subst hw9
  obtain ⟨hbH, hS, BH, OH⟩ := HRL.out
  have sbH : Hid (bH < w15.heap.size) := BH.lt
  clear HRL
  clear qA0 qA1 qP0 qP1 qP2
  replace hB := below_then hB hS
  replace BA := BA.below hS
  replace BP := BP.below hS
  replace BW := BW.below hS
  replace BX := BX.below hS
  replace BY := BY.below hS
  replace BG := BG.below hS
  replace OW := OW.below hS
  replace OG := OG.below hS
  replace HA := HA.below hS
  replace HC := HC.below hS
  have sw15 : Hid (w14.heap.size ≤ w15.heap.size) := by have hq := hS.size; show w14.heap.size ≤ w15.heap.size; omega
  clear hS
  have TW := BW
  obtain ⟨qW0, qW1, qW2⟩ := TW
  have TH := BH
  obtain ⟨qH0, qH1, qH2⟩ := TH
  go_wp2_with fail
  refine (eqDiskResult_same c R ah ah2 aw aw2 ch ch2 cw cw2 _ hR OH.at OW.at).mono ?_
  rintro e w16 ⟨rfl, hb⟩
  clear qW0 qW1 qW2 qH0 qH1 qH2
  replace hB := below_then hB hb
  replace BA := BA.below hb
  replace BP := BP.below hb
  replace BW := BW.below hb
  replace BX := BX.below hb
  replace BY := BY.below hb
  replace BG := BG.below hb
  replace BH := BH.below hb
  replace OW := OW.below hb
  replace OG := OG.below hb
  replace OH := OH.below hb
  replace HA := HA.below hb
  replace HC := HC.below hb
  have sw16 : Hid (w15.heap.size ≤ w16.heap.size) := by have hq := hb.size; show w15.heap.size ≤ w16.heap.size; omega
  clear hb
  have TG := BG
  obtain ⟨qG0, qG1, qG2⟩ := TG
  go_wp2_with fail
  refine (heldDiskResult_any c R _ _ cg cg2 _ hR OG.at).mono ?_
  rintro e w17 ⟨rfl, hb⟩
  clear qG0 qG1 qG2
  replace hB := below_then hB hb
  replace BA := BA.below hb
  replace BP := BP.below hb
  replace BW := BW.below hb
  replace BX := BX.below hb
  replace BY := BY.below hb
  replace BG := BG.below hb
  replace BH := BH.below hb
  replace OW := OW.below hb
  replace OG := OG.below hb
  replace OH := OH.below hb
  replace HA := HA.below hb
  replace HC := HC.below hb
  have sw17 : Hid (w16.heap.size ≤ w17.heap.size) := by have hq := hb.size; show w16.heap.size ≤ w17.heap.size; omega
  clear hb
  go_wp2_with fail
  go_ret
  exact ⟨rfl, hB⟩
theorem wrC_zero {D : Dk} {idn lsn : Int} {n : Nat} {K V : Nat → Int} (h : wrC D idn lsn n K V = 0) : df D = 0 := by
  unfold wrC at h
  by_cases e : df D = 0
  · exact e
  · rw [if_neg e] at h; exact absurd h e
theorem writeLaw (D : Dk) (a a' : Option Addr) (cap cap' : Nat) (idn lsn : Int) (pn : Nat) (K V : Nat → Int) (pa : Option Addr) (pcap : Nat) (w : World) (hn : D.n ≤ 9223372036854775807) (hL : ∀ i, i < D.n → D.L i ≤ 9223372036854775807) (hm : D.m ≤ 9223372036854775807) (hM : ∀ i, i < D.m → D.M i ≤ 9223372036854775807) (HA0 : DiskAt w a a' D) (hpn : pn ≤ 9223372036854775807) (HC0 : CellsAt w pa pn K V) :
    Calls Try.prog 8 #[.agg #[.slice a D.n cap, .slice a' D.m cap'], .agg #[.int .i64 idn, .int .i64 lsn, .slice pa pn pcap]] w fun e w' => e = .returned (.bool true) ∧ Below w.heap.size w w' := by
  have hb0 : ∀ o1 o2, Below w.heap.size w ((w.alloc o1).alloc o2) := fun o1 o2 => ((Below.refl _ _).alloc (Nat.le_refl _) _).alloc (by simp) _
  by_cases hsz : 0 ≤ (1048576 : Int) - D.n - sumL D.L D.n - D.m - sumL D.M D.m
  · have hs := small_of hsz
    by_cases hp : pn ≤ 1048576
    · refine writeLaw_small D a a' cap cap' idn lsn pn K V pa pcap w hn hL hm hM HA0 hpn HC0 (wrC D idn lsn pn K V) (rD (wrC D idn lsn pn K V) (wrD D idn lsn pn K V)) ?_ (fun a a' b w h h3 => specWrite_any D idn lsn pn K V a a' D.n D.m b w hs hp h h3) (fun a a' b w h h3 => implWrite_any D idn lsn pn K V a a' D.n D.m b w hs hp h h3)
      unfold rD
      by_cases e : wrC D idn lsn pn K V = 0
      · rw [if_pos e]; exact small_pl (goodD_of (wrC_zero e)) idn _
      · rw [if_neg e]; exact small_E0
    · go_enter Try.func8, Try.ntmps8
      go_wp2_with fail
      refine (szDisk_any D.n D.m D.L D.Z D.P D.T D.M D.Y a a' cap cap' _ hn hL hm hM (HA0.1.below (hb0 _ _)) (HA0.2.below (hb0 _ _))).mono ?_
      rintro e w1 ⟨hb, r, rfl, hr⟩
      have hB : Below w.heap.size w w1 := below_then (hb0 _ _) hb
      rcases hr with rfl | ⟨hr0, hr1⟩
      · go_wp2_with fail
        go_ret
        exact ⟨rfl, hB⟩
      · have hq : Box3 w1 (w.heap.size + 1) (.int .i64 idn) (.int .i64 lsn) (.slice pa pn pcap) := by
          have h := (Box3.new (w.alloc (.cells #[.slice a D.n cap, .slice a' D.m cap'] 73)) (.int .i64 idn) (.int .i64 lsn) (.slice pa pn pcap) 49).below hb
          rw [World.size_alloc] at h
          exact h
        obtain ⟨q0, q1, q2⟩ := hq
        have hr2 : r ≤ 1048576 := by omega
        clear hr1 hb
        go_wp2_with fail
        refine (szPage_x idn lsn pn pa pcap r w1 hpn hr0 hr2).mono ?_
        rintro e w2 ⟨hb2, r2, rfl, hrr⟩
        obtain rfl : r2 = -1 := by omega
        go_wp2_with fail
        go_ret
        exact ⟨rfl, below_then hB hb2⟩
  · go_enter Try.func8, Try.ntmps8
    go_wp2_with fail
    refine (szDisk_any D.n D.m D.L D.Z D.P D.T D.M D.Y a a' cap cap' _ hn hL hm hM (HA0.1.below (hb0 _ _)) (HA0.2.below (hb0 _ _))).mono ?_
    rintro e w1 ⟨hb, r, rfl, hr⟩
    have hB : Below w.heap.size w w1 := below_then (hb0 _ _) hb
    obtain rfl : r = -1 := by omega
    go_wp2_with fail
    go_ret
    exact ⟨rfl, hB⟩
end Go.Proofs.Ytmopoblladnjbaa
