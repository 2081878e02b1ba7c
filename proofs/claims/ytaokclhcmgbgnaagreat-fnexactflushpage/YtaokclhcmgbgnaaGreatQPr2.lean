/- impl.UnpackRecs. -/
import Derived.Test.YtaokclhcmgbgnaaGreatQRf
import Derived.Test.YtaokclhcmgbgnaaGreatQCq
namespace Go.Proofs.YtaokclhcmgbgnaaGreat
open Go.RowKit Go.Deep
set_option linter.unusedVariables false
set_option maxRecDepth 20000

/-- Where putRec stands. -/
structure Sr (w wB : World) (C : Nat) (wi : World) (v : Value) (zs : List Int) : Prop where
  mkr : MK wi C (w.heap.size + 1) v zs
  os : wi.os = w.os
  tape : wi.tape = w.tape
  output : wi.output = w.output
  hsz : w.heap.size + 1 ≤ wi.heap.size
  block : ∀ k, k < w.heap.size + 1 → k ≠ C → wi.heap[k]? = wB.heap[k]?
theorem Sr.alloc {w wB wi : World} {C : Nat} {v : Value} {zs : List Int} (h : Sr w wB C wi v zs) (o : Array Value) (t : TypeId) : Sr w wB C (wi.alloc (.cells o t)) v zs := by
  refine ⟨⟨cell_alloc h.mkr.1 _, ?_, h.mkr.2.2.alloc _⟩, h.os, h.tape, h.output, by have := h.hsz; rw [World.size_alloc]; omega, fun k hk hkC => (Below.heap_alloc _ _ _ (by have := h.hsz; omega)).trans (h.block k hk hkC)⟩
  rw [frozen?_alloc_cells]; exact h.mkr.2.1
theorem Sr.step {w wB wi wj : World} {C : Nat} {v v' : Value} {zs zs' : List Int} (h : Sr w wB C wi v zs) (hm : MK wj C (w.heap.size + 1) v' zs') (hu : Upd C v wi wj) : Sr w wB C wj v' zs' :=
  ⟨hm, hu.os.trans h.os, hu.tape.trans h.tape, hu.output.trans h.output, Nat.le_trans h.hsz hu.size, fun k hk hkC => (hu.block k (by have := h.hsz; omega) hkC (own_far h.mkr.2.2 hk)).trans (h.block k hk hkC)⟩
theorem Sr.below {w wB wi wj : World} {C : Nat} {v : Value} {zs : List Int} (h : Sr w wB C wi v zs) (hC : C < w.heap.size) (hb : Below wi.heap.size wi wj) : Sr w wB C wj v zs :=
  ⟨⟨cell_below h.mkr.1 hb, (hb.frozen (p := ⟨C, 0, none⟩) (by have := h.hsz; show C < _; omega)).trans h.mkr.2.1, rowB_below h.mkr.2.2 hb⟩, hb.os.trans h.os, hb.tape.trans h.tape, hb.output.trans h.output, by have := h.hsz; have := hb.size; omega, fun k hk hkC => (hb.block k (by have := h.hsz; omega)).trans (h.block k hk hkC)⟩
theorem Sr.cell {w wB wi : World} {C : Nat} {v x : Value} {zs : List Int} {i : Nat} (h : Sr w wB C wi v zs) (hC : C < w.heap.size) (hx : wB.cell? ⟨w.heap.size, i, none⟩ = some x) : wi.cell? ⟨w.heap.size, i, none⟩ = some x :=
  (World.cell?_of_block (w := wB) (a := ⟨w.heap.size, i, none⟩) (h.block w.heap.size (by omega) (by omega))).trans hx
/-- The eight cells of a record's box. -/
def Box8 (w : World) (B : Nat) (k t key : Int) (hd : Bool) (old : Int) (hs : Bool) (nw bk : Int) : Prop := w.cell? ⟨B, 0, none⟩ = some (.int .i64 k) ∧ w.cell? ⟨B, 1, none⟩ = some (.int .i64 t) ∧ w.cell? ⟨B, 2, none⟩ = some (.int .i64 key) ∧ w.cell? ⟨B, 3, none⟩ = some (.bool hd) ∧ w.cell? ⟨B, 4, none⟩ = some (.int .i64 old) ∧ w.cell? ⟨B, 5, none⟩ = some (.bool hs) ∧ w.cell? ⟨B, 6, none⟩ = some (.int .i64 nw) ∧ w.cell? ⟨B, 7, none⟩ = some (.int .i64 bk)
theorem Sr.box8 {w wi : World} {C : Nat} {v : Value} {zs : List Int} {k t key : Int} {hd : Bool} {old : Int} {hs : Bool} {nw bk : Int} (h : Sr w (w.alloc (.cells #[.int .i64 k, .int .i64 t, .int .i64 key, .bool hd, .int .i64 old, .bool hs, .int .i64 nw, .int .i64 bk] 105)) C wi v zs) (hC : C < w.heap.size) : Box8 wi w.heap.size k t key hd old hs nw bk :=
  ⟨h.cell hC (by simp), h.cell hC (by simp), h.cell hC (by simp), h.cell hC (by simp), h.cell hC (by simp), h.cell hC (by simp), h.cell hC (by simp), h.cell hC (by simp)⟩
theorem Box8.below {w w' : World} {B : Nat} {k t key : Int} {hd : Bool} {old : Int} {hs : Bool} {nw bk : Int} (h : Box8 w B k t key hd old hs nw bk) (hb : Below w.heap.size w w') : Box8 w' B k t key hd old hs nw bk :=
  ⟨cell_below h.1 hb, cell_below h.2.1 hb, cell_below h.2.2.1 hb, cell_below h.2.2.2.1 hb, cell_below h.2.2.2.2.1 hb, cell_below h.2.2.2.2.2.1 hb, cell_below h.2.2.2.2.2.2.1 hb, cell_below h.2.2.2.2.2.2.2 hb⟩
def two (x y : Int) (i : Nat) : Int := if i = 0 then x else y
def thr (x y z : Int) (i : Nat) : Int := if i = 0 then x else if i = 1 then y else z
/-- The eleven bytes ahead of the sum. -/
def rbb (k t key : Int) (hd : Bool) (old : Int) (hs : Bool) (nw bk : Int) : List Int := nb k 1 ++ nb t 2 ++ (nb key 1 ++ nb (fl hd hs) 1) ++ (nb old 2 ++ nb nw 2 ++ nb bk 2)
/-- The bytes of a record. -/
def rb (k t key : Int) (hd : Bool) (old : Int) (hs : Bool) (nw bk : Int) : List Int := rbb k t key hd old hs nw bk ++ nb (sm (rbb k t key hd old hs nw bk)) 2
theorem rbb_len (k t key : Int) (hd : Bool) (old : Int) (hs : Bool) (nw bk : Int) : (rbb k t key hd old hs nw bk).length = 11 := by simp [rbb, nb_len]
theorem rb_len (k t key : Int) (hd : Bool) (old : Int) (hs : Bool) (nw bk : Int) : (rb k t key hd old hs nw bk).length = 13 := by simp [rb, rbb_len, nb_len]
theorem rbb_byt (k t key : Int) (hd : Bool) (old : Int) (hs : Bool) (nw bk : Int) : BytL (rbb k t key hd old hs nw bk) := (((nb_byt _ _).app (nb_byt _ _)).app ((nb_byt _ _).app (nb_byt _ _))).app (((nb_byt _ _).app (nb_byt _ _)).app (nb_byt _ _))
theorem rb_byt (k t key : Int) (hd : Bool) (old : Int) (hs : Bool) (nw bk : Int) : BytL (rb k t key hd old hs nw bk) := (rbb_byt k t key hd old hs nw bk).app (nb_byt _ _)
/-- Numbers of a good record. -/
structure GoodR (k t key : Int) (hd : Bool) (old : Int) (hs : Bool) (nw bk : Int) : Prop where
  k : 0 ≤ k ∧ k ≤ 6
  t : 0 ≤ t ∧ t ≤ 999
  key : 0 ≤ key ∧ key ≤ 31
  old : 0 ≤ old ∧ old ≤ 9999
  nw : 0 ≤ nw ∧ nw ≤ 9999
  bk : 0 ≤ bk ∧ bk ≤ 1000
theorem goodR_of (k t key : Int) (hd : Bool) (old : Int) (hs : Bool) (nw bk : Int) (h : rf k t key hd old hs nw bk = 0) : GoodR k t key hd old hs nw bk := by
  unfold rf at h
  by_cases h1 : rng k t key old nw bk = true
  · simp only [rng, Bool.and_eq_true, inB_iff] at h1
    obtain ⟨⟨⟨⟨⟨a, b⟩, c⟩, d⟩, e⟩, f⟩ := h1
    refine ⟨by omega, ?_, c, d, e, f⟩
    unfold txb at b
    split at b
    · simp at b; omega
    · rw [inB_iff] at b; omega
  · rw [if_neg h1] at h; omega
theorem drewB {w1 w2 : World} (hb : Below w1.drew.heap.size w1.drew w2) : Below w1.heap.size w1 w2 := ((Below.refl _ _).drew).trans hb
theorem put1 {w wB wi : World} {C : Nat} {v : Value} {zs : List Int} (h : Sr w wB C wi v zs) (hC : C < w.heap.size) (x : Int) (wd b : Nat) (hb : b = wi.heap.size) (hw : wd ≤ 4) (hx : 0 ≤ x ∧ x ≤ 1000000) (hz : zs.length ≤ 900) :
    Calls Tryz.prog 218 #[.pointer (some ⟨C, 0, none⟩), .int .i64 wd, .slice (some ⟨b, 0, none⟩) 1 1] (wi.alloc (.cells #[.int .i64 x] 2)) fun e w' => e = .returned (.tuple #[]) ∧ ∃ v', Sr w wB C w' v' (zs ++ (nb x wd)) := by
  subst hb
  have hA := h.alloc #[.int .i64 x] 2
  have hs := h.hsz
  have hct : cat (fun _ => x) wd 1 = nb x wd := by simp [cat]
  refine (putNumbers_any C (w.heap.size + 1) wd 1 (fun _ => x) wi.heap.size 1 v zs _ hw (by decide) (fun i hi => ?_) hz (by omega) hA.hsz hA.mkr (by simp) (by omega) (own_lt h.mkr.2.2 (Nat.le_refl _)) (fun i hi => ?_)).mono ?_
  · exact hx
  · obtain rfl : i = 0 := by omega
    simp
  · rintro e w' ⟨rfl, v', hm, hu, hl⟩
    rw [hct] at hm
    exact ⟨rfl, v', hA.step hm hu⟩
theorem put2 {w wB wi : World} {C : Nat} {v : Value} {zs : List Int} (h : Sr w wB C wi v zs) (hC : C < w.heap.size) (x y : Int) (wd b : Nat) (hb : b = wi.heap.size) (hw : wd ≤ 4) (hx : 0 ≤ x ∧ x ≤ 1000000) (hy : 0 ≤ y ∧ y ≤ 1000000) (hz : zs.length ≤ 900) :
    Calls Tryz.prog 218 #[.pointer (some ⟨C, 0, none⟩), .int .i64 wd, .slice (some ⟨b, 0, none⟩) 2 2] (wi.alloc (.cells #[.int .i64 x, .int .i64 y] 2)) fun e w' => e = .returned (.tuple #[]) ∧ ∃ v', Sr w wB C w' v' (zs ++ (nb x wd ++ nb y wd)) := by
  subst hb
  have hA := h.alloc #[.int .i64 x, .int .i64 y] 2
  have hs := h.hsz
  have hct : cat (two x y) wd 2 = nb x wd ++ nb y wd := by simp [cat, two]
  refine (putNumbers_any C (w.heap.size + 1) wd 2 (two x y) wi.heap.size 2 v zs _ hw (by decide) (fun i hi => ?_) hz (by omega) hA.hsz hA.mkr (by simp) (by omega) (own_lt h.mkr.2.2 (Nat.le_refl _)) (fun i hi => ?_)).mono ?_
  · simp only [two]; split <;> assumption
  · rcases (by omega : i = 0 ∨ i = 1) with rfl | rfl <;> simp [two]
  · rintro e w' ⟨rfl, v', hm, hu, hl⟩
    rw [hct] at hm
    exact ⟨rfl, v', hA.step hm hu⟩
theorem put3 {w wB wi : World} {C : Nat} {v : Value} {zs : List Int} (h : Sr w wB C wi v zs) (hC : C < w.heap.size) (x y z : Int) (wd b : Nat) (hb : b = wi.heap.size) (hw : wd ≤ 4) (hx : 0 ≤ x ∧ x ≤ 1000000) (hy : 0 ≤ y ∧ y ≤ 1000000) (hz : 0 ≤ z ∧ z ≤ 1000000) (hz : zs.length ≤ 900) :
    Calls Tryz.prog 218 #[.pointer (some ⟨C, 0, none⟩), .int .i64 wd, .slice (some ⟨b, 0, none⟩) 3 3] (wi.alloc (.cells #[.int .i64 x, .int .i64 y, .int .i64 z] 2)) fun e w' => e = .returned (.tuple #[]) ∧ ∃ v', Sr w wB C w' v' (zs ++ (nb x wd ++ nb y wd ++ nb z wd)) := by
  subst hb
  have hA := h.alloc #[.int .i64 x, .int .i64 y, .int .i64 z] 2
  have hs := h.hsz
  have hct : cat (thr x y z) wd 3 = nb x wd ++ nb y wd ++ nb z wd := by simp [cat, thr]
  refine (putNumbers_any C (w.heap.size + 1) wd 3 (thr x y z) wi.heap.size 3 v zs _ hw (by decide) (fun i hi => ?_) hz (by omega) hA.hsz hA.mkr (by simp) (by omega) (own_lt h.mkr.2.2 (Nat.le_refl _)) (fun i hi => ?_)).mono ?_
  · simp only [thr]; split <;> (try split) <;> assumption
  · rcases (by omega : i = 0 ∨ i = 1 ∨ i = 2) with rfl | rfl | rfl <;> simp [thr]
  · rintro e w' ⟨rfl, v', hm, hu, hl⟩
    rw [hct] at hm
    exact ⟨rfl, v', hA.step hm hu⟩
set_option maxHeartbeats 4000000 in
theorem putRec_any (C : Nat) (k t key : Int) (hd : Bool) (old : Int) (hs : Bool) (nw bk : Int) (w : World) (g : GoodR k t key hd old hs nw bk) (hC : C < w.heap.size) (hm : MK w C (w.heap.size + 1) (.slice none 0 0) []) :
    Calls Tryz.prog 211 #[.pointer (some ⟨C, 0, none⟩), .agg #[.int .i64 k, .int .i64 t, .int .i64 key, .bool hd, .int .i64 old, .bool hs, .int .i64 nw, .int .i64 bk]] w fun e w' => e = .returned (.tuple #[]) ∧ ∃ v', MK w' C (w.heap.size + 1) v' (rb k t key hd old hs nw bk) ∧
      (w'.os = w.os ∧ w'.tape = w.tape ∧ w'.output = w.output ∧ w.heap.size ≤ w'.heap.size ∧ ∀ q, q < w.heap.size → q ≠ C → w'.heap[q]? = w.heap[q]?) := by
  have HG : Hid (GoodR k t key hd old hs nw bk) := g
  have HC : Hid (C < w.heap.size) := hC
  have HCB : Hid (C < w.heap.size + 1) := by show C < w.heap.size + 1; omega
  have S0 : Hid (Sr w (w.alloc (.cells #[.int .i64 k, .int .i64 t, .int .i64 key, .bool hd, .int .i64 old, .bool hs, .int .i64 nw, .int .i64 bk] 105)) C (w.alloc (.cells #[.int .i64 k, .int .i64 t, .int .i64 key, .bool hd, .int .i64 old, .bool hs, .int .i64 nw, .int .i64 bk] 105)) (.slice none 0 0) []) := ⟨⟨cell_alloc hm.1 _, by rw [frozen?_alloc_cells]; exact hm.2.1, World.ownsRow_nil _ _ _ _⟩, rfl, rfl, rfl, by rw [World.size_alloc]; exact Nat.le_refl _, fun _ _ _ => rfl⟩
  have HFL := fl_bd hd hs
  clear g hm hC
  go_enter Tryz.func211, Tryz.ntmps211
  go_wp2_with fail
  have HH := put1 S0.out HC.out k 1 (w.heap.size + 1) (by simp) (by decide) ⟨HG.out.k.1, by have := HG.out.k; omega⟩ (by decide)
  refine HH.mono ?_
  clear HH
  rintro e w1 ⟨rfl, v1, hS1⟩
  have S1 : Hid (Sr w (w.alloc (.cells #[.int .i64 k, .int .i64 t, .int .i64 key, .bool hd, .int .i64 old, .bool hs, .int .i64 nw, .int .i64 bk] 105)) C w1 v1 ([] ++ nb k 1)) := hS1
  obtain ⟨q0, q1, q2, q3, q4, q5, q6, q7⟩ := hS1.box8 HC.out
  clear hS1
  go_wp2_with fail
  have HH := put1 S1.out HC.out t 2 w1.heap.size rfl (by decide) ⟨HG.out.t.1, by have := HG.out.t; omega⟩ (by simp [nb_len])
  refine HH.mono ?_
  clear HH q0 q1 q2 q3 q4 q5 q6 q7
  rintro e w2 ⟨rfl, v2, hS2⟩
  have S2 : Hid (Sr w (w.alloc (.cells #[.int .i64 k, .int .i64 t, .int .i64 key, .bool hd, .int .i64 old, .bool hs, .int .i64 nw, .int .i64 bk] 105)) C w2 v2 ([] ++ nb k 1 ++ nb t 2)) := hS2
  obtain ⟨q0, q1, q2, q3, q4, q5, q6, q7⟩ := hS2.box8 HC.out
  clear hS2
  go_wp2_with fail
  go_region_held3 (fun w' => w'.cell? ⟨w.heap.size, 0, none⟩ = some (.int .i64 k) ∧ w'.cell? ⟨w.heap.size, 1, none⟩ = some (.int .i64 t) ∧ w'.cell? ⟨w.heap.size, 2, none⟩ = some (.int .i64 key) ∧ w'.cell? ⟨w.heap.size, 3, none⟩ = some (.bool hd) ∧ w'.cell? ⟨w.heap.size, 4, none⟩ = some (.int .i64 old) ∧ w'.cell? ⟨w.heap.size, 5, none⟩ = some (.bool hs) ∧ w'.cell? ⟨w.heap.size, 6, none⟩ = some (.int .i64 nw) ∧ w'.cell? ⟨w.heap.size, 7, none⟩ = some (.int .i64 bk)) (go_keep)
    (first | (go_at_call 219; refine (flagsOf_any k t key hd old hs nw bk _).mono ?_; rintro e wf ⟨rfl, hbf⟩; obtain ⟨p0, p1, p2, p3, p4, p5, p6, p7⟩ := (S2.out.below HC.out (drewB hbf)).box8 HC.out) | (go_at_call 218; have HH := put2 (S2.out.below HC.out (drewB hbf)) HC.out key (fl hd hs) 1 wf.heap.size rfl (by decide) ⟨HG.out.key.1, by have := HG.out.key; omega⟩ ⟨HFL.1, by omega⟩ (by simp [nb_len]); refine HH.mono ?_; clear HH; rintro e w3 ⟨rfl, v3, hS3⟩; obtain ⟨s0, s1, s2, s3, s4, s5, s6, s7⟩ := hS3.box8 HC.out))
  have S3 : Hid (Sr w (w.alloc (.cells #[.int .i64 k, .int .i64 t, .int .i64 key, .bool hd, .int .i64 old, .bool hs, .int .i64 nw, .int .i64 bk] 105)) C w3 v3 ([] ++ nb k 1 ++ nb t 2 ++ (nb key 1 ++ nb (fl hd hs) 1))) := hS3
  clear hS3 q0 q1 q2 q3 q4 q5 q6 q7 p0 p1 p2 p3 p4 p5 p6 p7 hbf
  go_wp2_with fail
  have HH := put3 S3.out HC.out old nw bk 2 w3.heap.size rfl (by decide) ⟨HG.out.old.1, by have := HG.out.old; omega⟩ ⟨HG.out.nw.1, by have := HG.out.nw; omega⟩ ⟨HG.out.bk.1, by have := HG.out.bk; omega⟩ (by simp [nb_len])
  refine HH.mono ?_
  clear HH s0 s1 s2 s3 s4 s5 s6 s7
  rintro e w4 ⟨rfl, v4, hS4⟩
  have S4 : Hid (Sr w (w.alloc (.cells #[.int .i64 k, .int .i64 t, .int .i64 key, .bool hd, .int .i64 old, .bool hs, .int .i64 nw, .int .i64 bk] 105)) C w4 v4 (rbb k t key hd old hs nw bk)) := hS4
  clear hS4
  go_wp2_with fail
  refine (putSum_any C (w.heap.size + 1) v4 (rbb k t key hd old hs nw bk) w4 (by rw [rbb_len]; omega) (rbb_byt k t key hd old hs nw bk) HCB.out S4.out.hsz S4.out.mkr).mono ?_
  rintro e w5 ⟨rfl, v5, hm5, hu5, hl5⟩
  have S5 : Hid (Sr w (w.alloc (.cells #[.int .i64 k, .int .i64 t, .int .i64 key, .bool hd, .int .i64 old, .bool hs, .int .i64 nw, .int .i64 bk] 105)) C w5 v5 (rb k t key hd old hs nw bk)) := S4.out.step hm5 hu5
  clear hm5 hu5 hl5
  go_wp2_with fail
  go_end0
  refine ⟨rfl, v5, S5.out.mkr, S5.out.os, S5.out.tape, S5.out.output, by have := S5.out.hsz; omega, fun q hq hqC => ?_⟩
  exact (S5.out.block q (by omega) hqC).trans (Below.heap_alloc _ _ _ hq)
set_option maxHeartbeats 2000000 in
theorem implPr_any (k t key : Int) (hd : Bool) (old : Int) (hs : Bool) (nw bk : Int) (w : World) :
    Calls Tryz.prog 196 #[.agg #[.int .i64 k, .int .i64 t, .int .i64 key, .bool hd, .int .i64 old, .bool hs, .int .i64 nw, .int .i64 bk]] w (BRes2 (rf k t key hd old hs nw bk) (rb k t key hd old hs nw bk) w) := by
  have hb0 : ∀ o1 o2, Below w.heap.size w ((w.alloc o1).alloc o2) := fun o1 o2 => ((Below.refl _ _).alloc (Nat.le_refl _) _).alloc (by simp) _
  by_cases h0 : rf k t key hd old hs nw bk = 0
  · have HG : Hid (GoodR k t key hd old hs nw bk) := goodR_of k t key hd old hs nw bk h0
    have E : Hid (rf k t key hd old hs nw bk = 0) := h0
    go_enter Tryz.func196, Tryz.ntmps196
    go_wp2_with fail
    refine (implRf_any k t key hd old hs nw bk _).mono ?_
    rintro e w1 ⟨rfl, hb1⟩
    rw [h0]
    obtain ⟨hc, hf⟩ := bcell hb1
    have hz : w.heap.size + 1 < w1.heap.size := by have hq := hb1.size; simp at hq; omega
    have k0 : w1.cell? ⟨w.heap.size, 0, none⟩ = some (.int .i64 k) := by rw [hc _ _ (by simp <;> omega)]; simp [go_sem]
    have k1 : w1.cell? ⟨w.heap.size, 1, none⟩ = some (.int .i64 t) := by rw [hc _ _ (by simp <;> omega)]; simp [go_sem]
    have k2 : w1.cell? ⟨w.heap.size, 2, none⟩ = some (.int .i64 key) := by rw [hc _ _ (by simp <;> omega)]; simp [go_sem]
    have k3 : w1.cell? ⟨w.heap.size, 3, none⟩ = some (.bool hd) := by rw [hc _ _ (by simp <;> omega)]; simp [go_sem]
    have k4 : w1.cell? ⟨w.heap.size, 4, none⟩ = some (.int .i64 old) := by rw [hc _ _ (by simp <;> omega)]; simp [go_sem]
    have k5 : w1.cell? ⟨w.heap.size, 5, none⟩ = some (.bool hs) := by rw [hc _ _ (by simp <;> omega)]; simp [go_sem]
    have k6 : w1.cell? ⟨w.heap.size, 6, none⟩ = some (.int .i64 nw) := by rw [hc _ _ (by simp <;> omega)]; simp [go_sem]
    have k7 : w1.cell? ⟨w.heap.size, 7, none⟩ = some (.int .i64 bk) := by rw [hc _ _ (by simp <;> omega)]; simp [go_sem]
    have r0 : w1.cell? ⟨w.heap.size + 1, 0, none⟩ = some (.int .i64 0) := by simp [hc]
    have r1 : w1.cell? ⟨w.heap.size + 1, 1, none⟩ = some (.slice none 0 0) := by simp [hc]
    have f0 : ∀ i, w1.frozen? ⟨w.heap.size + 1, i, none⟩ = false := fun i => by simp [hf, go_sem]
    have m0 := fun o : Obj => cell_alloc k0 o
    have m1 := fun o : Obj => cell_alloc k1 o
    have m2 := fun o : Obj => cell_alloc k2 o
    have m3 := fun o : Obj => cell_alloc k3 o
    have m4 := fun o : Obj => cell_alloc k4 o
    have m5 := fun o : Obj => cell_alloc k5 o
    have m6 := fun o : Obj => cell_alloc k6 o
    have m7 := fun o : Obj => cell_alloc k7 o
    have HB : Hid (Below w.heap.size w w1) := below_then (hb0 _ _) hb1
    clear h0 hc hf hb1 hb0
    go_wp2_with fail
    refine (putRec_any w1.heap.size k t key hd old hs nw bk (w1.alloc (.cells #[.slice none 0 0] 250)) HG.out (by simp) ⟨by simp, by simp, World.ownsRow_nil _ _ _ _⟩).mono ?_
    rintro e w3 ⟨rfl, v3, hm3, hos, htape, hout, hsz3, hblk⟩
    obtain ⟨a3, cap3, rfl, ho3⟩ := ownB_of_row hm3.2.2
    have HCP : Hid ((rb k t key hd old hs nw bk).length ≤ cap3) := own_cap hm3.2.2
    have hc3 := hm3.1
    have hs3 : w1.heap.size + 1 ≤ w3.heap.size := by rw [World.size_alloc] at hsz3; exact hsz3
    have hbk : ∀ k, k < w1.heap.size → w3.heap[k]? = w1.heap[k]? := fun k hk => (hblk k (by rw [World.size_alloc]; omega) (by omega)).trans (Below.heap_alloc _ _ _ hk)
    have t0 : w3.cell? ⟨w.heap.size + 1, 0, none⟩ = some (.int .i64 0) := (World.cell?_of_block (w := w1) (a := ⟨w.heap.size + 1, 0, none⟩) (hbk _ hz)).trans r0
    have t1 : w3.cell? ⟨w.heap.size + 1, 1, none⟩ = some (.slice none 0 0) := (World.cell?_of_block (w := w1) (a := ⟨w.heap.size + 1, 1, none⟩) (hbk _ hz)).trans r1
    have fz : ∀ i, w3.frozen? ⟨w.heap.size + 1, i, none⟩ = false := fun i => (World.frozen?_of_block (w := w1) (a := ⟨w.heap.size + 1, i, none⟩) (hbk _ hz)).trans (f0 i)
    have HB3 : Hid (Below w.heap.size w w3) := ⟨hos.trans HB.out.os, htape.trans HB.out.tape, hout.trans HB.out.output, by have := HB.out.size; omega, fun k hk => (hbk k (by omega)).trans (HB.out.block k hk)⟩
    have HO3 : Hid (OwnB w3 ((w1.alloc (.cells #[.slice none 0 0] 250)).heap.size + 1) w3.heap.size a3 (rb k t key hd old hs nw bk).length (zOf (rb k t key hd old hs nw bk))) := ho3
    generalize rb k t key hd old hs nw bk = Z at *
    clear hm3 ho3 hblk hbk hos htape hout hsz3 r0 r1 f0 m0 m1 m2 m3 m4 m5 m6 m7 k0 k1 k2 k3 k4 k5 k6 k7
    go_wp2_with fail
    refine bodyPost_ret (v := .agg #[.int .i64 0, .slice a3 Z.length cap3]) (by simp [results, Tryz.results196, go_sem, *]) rfl ?_
    refine bres2_ok E HB3.out ?_ HO3.out ?_ (by simp [World.setCell]) HCP.out
    · rw [World.size_alloc]; omega
    · repeat (first | exact Writes.refl _ _ _ | apply Writes.drew | refine Writes.setCell ?_ (by first | omega | (simp <;> omega)) (by first | omega | (simp <;> omega)) _)
  · have hdd : (rf k t key hd old hs nw bk != 0) = true := by simpa using h0
    have HNZ : Hid (rf k t key hd old hs nw bk ≠ 0) := h0
    go_enter Tryz.func196, Tryz.ntmps196
    go_wp2_with fail
    refine (implRf_any k t key hd old hs nw bk _).mono ?_
    rintro e w1 ⟨rfl, hb1⟩
    obtain ⟨hc, hf⟩ := bcell hb1
    generalize rf k t key hd old hs nw bk = c at *
    clear h0
    go_wp2_with fail
    refine bodyPost_ret (v := .agg #[.int .i64 c, .slice none 0 0]) (by simp [results, Tryz.results196, go_sem, hc]) rfl ?_
    refine bres2_bad ?_ HNZ.out
    repeat (first | exact below_then (hb0 _ _) hb1 | refine Below.setCell ?_ (by first | omega | (simp <;> omega)) _)
theorem and1_all : ∀ x : Fin 256, bits .and .u64 (x.val : Int) 1 = (x.val : Int) % 2 := by decide +kernel
theorem and2_all : ∀ x : Fin 256, bits .and .u64 (x.val : Int) 2 = (x.val : Int) / 2 % 2 * 2 := by decide +kernel
theorem and1 {x : Int} (h0 : 0 ≤ x) (h1 : x ≤ 255) : bits .and .u64 x 1 = x % 2 := by
  have h := and1_all ⟨x.toNat, by omega⟩
  have e : ((x.toNat : Nat) : Int) = x := by omega
  simpa [e] using h
theorem andTwo {x : Int} (h0 : 0 ≤ x) (h1 : x ≤ 255) : bits .and .u64 x 2 = x / 2 % 2 * 2 := by
  have h := and2_all ⟨x.toNat, by omega⟩
  have e : ((x.toNat : Nat) : Int) = x := by omega
  simpa [e] using h
def hdB (z : Nat → Int) : Bool := z 4 % 2 == 1
def hsB (z : Nat → Int) : Bool := z 4 / 2 % 2 == 1
theorem hdB_eq {z : Nat → Int} (h0 : 0 ≤ z 4) (h1 : z 4 ≤ 255) : (bits .and .u64 (z 4) 1 != 0) = hdB z := by
  rw [and1 h0 h1, hdB]
  have : z 4 % 2 = 0 ∨ z 4 % 2 = 1 := by omega
  rcases this with h | h <;> rw [h] <;> rfl
theorem hsB_eq {z : Nat → Int} (h0 : 0 ≤ z 4) (h1 : z 4 ≤ 255) : (bits .and .u64 (z 4) 2 != 0) = hsB z := by
  rw [andTwo h0 h1, hsB]
  have : z 4 / 2 % 2 = 0 ∨ z 4 / 2 % 2 = 1 := by omega
  rcases this with h | h <;> rw [h] <;> rfl
theorem ba_ad {w : World} {b off n : Nat} {z : Nat → Int} (h : BA w b off n z) (o : Obj) : BA (w.alloc o).drew b off n z := h.alloc o
set_option maxHeartbeats 4000000 in
theorem readRec_some (n : Nat) (z : Nat → Int) (b off cap : Nat) (w : World) (hn : 13 ≤ n) (hcap : n ≤ cap) (hbl : b < w.heap.size) (hz : Byt 13 z) (hc : BA w b off 13 z) :
    Calls Tryz.prog 198 #[.slice (some ⟨b, off, none⟩) n cap] w fun e w' =>
      e = .returned (.agg #[.int .i64 (num z 0 1), .int .i64 (num z 1 2), .int .i64 (num z 3 1), .bool (hdB z), .int .i64 (num z 5 2), .bool (hsB z), .int .i64 (num z 7 2), .int .i64 (num z 9 2)]) ∧ Below w.heap.size w w' := by
  have HZ : Hid (Byt 13 z) := hz
  have hz4 := hz 4 (by decide)
  have c1 : ¬ cap = 1 := by omega
  have c3 : ¬ cap = 3 := by omega
  have c5 : ¬ cap = 5 := by omega
  have c7 : ¬ cap = 7 := by omega
  have c9 : ¬ cap = 9 := by omega
  have d1 : (1 : Int) ≤ (cap : Int) := by omega
  have d3 : (3 : Int) ≤ (cap : Int) := by omega
  have d4 : (4 : Int) ≤ (cap : Int) := by omega
  have d7 : (7 : Int) ≤ (cap : Int) := by omega
  have d9 : (9 : Int) ≤ (cap : Int) := by omega
  have d11 : (11 : Int) ≤ (cap : Int) := by omega
  have dn : (4 : Int) < (n : Int) := by omega
  have hbn : b ≠ w.heap.size := by omega
  have hw4 : IntKind.u64.wrap (z 4) = z 4 := by rw [IntKind.wrap_u64]; omega
  have HHD := hdB_eq hz4.1 hz4.2
  have HHS := hsB_eq hz4.1 hz4.2
  have hA : BA (w.alloc (.cells #[.int .i64 0, .int .i64 0, .int .i64 0, .bool false, .int .i64 0, .bool false, .int .i64 0, .int .i64 0] 105)) b off 13 z := hc.alloc _
  have h4 := hA 4 (by decide)
  have hA0 : BA (w.alloc (.cells #[.int .i64 0, .int .i64 0, .int .i64 0, .bool false, .int .i64 0, .bool false, .int .i64 0, .int .i64 0] 105)).drew b off 13 z := hA
  have hcw : BA w b off 13 z := hc
  clear hz hc hz4
  go_enter Tryz.func198, Tryz.ntmps198
  go_wp2_with fail
  go_region_held3 (fun w' => BA w' b off 13 z) (first | with_reducible assumption | with_reducible exact ba_ad hcw _ | go_keep)
    (first | (go_at_call 213; refine (readNumG z b off 13 _ (by with_reducible assumption) HZ.out (by decide) (by omega) (by omega)).mono ?_; rintro e w' ⟨rfl, rfl⟩; simp only [Nat.add_sub_cancel_left, Nat.sub_self]))
  all_goals
    go_wp2_with fail
    refine bodyPost_ret (v := .agg #[.int .i64 (num z 0 1), .int .i64 (num z 1 2), .int .i64 (num z 3 1), .bool (hdB z), .int .i64 (num z 5 2), .bool (hsB z), .int .i64 (num z 7 2), .int .i64 (num z 9 2)]) (by simp [results, Tryz.results198, go_sem]) rfl ⟨rfl, ?_⟩
    repeat (first | exact (below_new _ _).drew | exact below_new _ _ | apply Below.drew | refine Below.setCell ?_ (by first | omega | (simp <;> omega)) _)
/-- The fault and the bytes of the record that 13 bytes tell. -/
def rzF (z : Nat → Int) : Int := rf (num z 0 1) (num z 1 2) (num z 3 1) (hdB z) (num z 5 2) (hsB z) (num z 7 2) (num z 9 2)
def rzB (z : Nat → Int) : List Int := rb (num z 0 1) (num z 1 2) (num z 3 1) (hdB z) (num z 5 2) (hsB z) (num z 7 2) (num z 9 2)
/-- Do the 13 bytes tell a record whose bytes they are? -/
def okR (z : Nat → Int) : Bool := decide (rzF z = 0) && decide (rzB z = zL z 13)
theorem rzB_len (z : Nat → Int) : (rzB z).length = 13 := rb_len _ _ _ _ _ _ _ _
set_option maxHeartbeats 4000000 in
theorem startsWith_some (n : Nat) (z : Nat → Int) (b off cap : Nat) (w : World) (hn : 13 ≤ n) (hcap : n ≤ cap) (hbl : b < w.heap.size) (hz : Byt 13 z) (hc : BA w b off 13 z) :
    Calls Tryz.prog 197 #[.slice (some ⟨b, off, none⟩) n cap] w fun e w' => e = .returned (.bool (okR z)) ∧ Below w.heap.size w w' := by
  have HZ : Hid (Byt 13 z) := hz
  have HC : Hid (BA w b off 13 z) := hc
  have hn13 : ¬ ((n : Int) < 13) := by omega
  have d13 : (13 : Int) ≤ (cap : Int) := by omega
  clear hz hc
  go_enter Tryz.func197, Tryz.ntmps197
  go_wp2_with fail
  refine (readRec_some n z b off cap w hn hcap hbl HZ.out HC.out).mono ?_
  rintro e w1 ⟨rfl, hb1⟩
  go_wp2_with fail
  refine (implPr_any (num z 0 1) (num z 1 2) (num z 3 1) (hdB z) (num z 5 2) (hsB z) (num z 7 2) (num z 9 2) w1).mono ?_
  rintro e w2 ⟨a3, cap3, rfl, hb2, ho3, hcp3⟩
  have HB2 : Hid (Below w.heap.size w w2) := below_then hb1 hb2
  have hCd : BA w2 b off 13 z := HC.out.below HB2.out
  clear hb1 hb2
  by_cases hp : rzF z = 0
  · have hp' : rf (num z 0 1) (num z 1 2) (num z 3 1) (hdB z) (num z 5 2) (hsB z) (num z 7 2) (num z 9 2) = 0 := hp
    have HOK : Hid (okR z = decide (rzB z = zL z 13)) := by show okR z = _; simp [okR, hp]
    rw [hp'] at ho3 hcp3 ⊢
    simp only [if_true] at ho3 hcp3 ⊢
    rw [rb_len] at ho3 hcp3 ⊢
    rcases ho3.2 with h | ⟨g3, o3, rfl, h31, h32, h33, h34⟩
    · cases h
    have hE : ∀ W : World, (∀ i, i < 13 → W.cell? ⟨g3, o3 + i, none⟩ = some (.int .u8 (zOf (rzB z) i))) → BA W b off 13 z → Calls Tryz.prog 212 #[.slice (some ⟨g3, o3, none⟩) 13 cap3, .slice (some ⟨b, off, none⟩) 13 cap] W fun e w' => e = .returned (.bool (decide (rzB z = zL z 13))) ∧ w' = W := fun W h1 h2 => by
      have hE := equal_some (rzB z) (zL z 13) g3 o3 cap3 b off cap W (fun x hx => rb_byt _ _ _ _ _ _ _ _ x hx) (zL_byt HZ.out) (fun i hi => by
        rw [rzB_len] at hi
        exact h1 i hi) (fun i hi => by
        rw [zL_len] at hi
        rw [zL_get _ _ _ hi]
        exact h2 i hi)
      rw [rzB_len, zL_len] at hE
      exact hE
    have HE : Hid _ := hE (w2.alloc (.cells #[.int .i64 0, .slice (some ⟨g3, o3, none⟩) 13 cap3] 205)).drew (fun i hi => cell_alloc (h33 i hi) (.cells #[.int .i64 0, .slice (some ⟨g3, o3, none⟩) 13 cap3] 205)) (hCd.alloc _)
    clear hE h31 h32 h33 h34 ho3 hCd hp hp'
    have HBX := Box2.new w2 (.int .i64 0) (.slice (some ⟨g3, o3, none⟩) 13 cap3) 205
    obtain ⟨x0, x1⟩ := HBX
    go_wp2_with fail
    go_region_held3 (fun w' => w'.cell? ⟨w2.heap.size, 0, none⟩ = some (.int .i64 0) ∧ w'.cell? ⟨w2.heap.size, 1, none⟩ = some (.slice (some ⟨g3, o3, none⟩) 13 cap3)) (go_keep)
      (first | (go_at_call 212; refine Calls.mono HE.out ?_; rintro e w' ⟨rfl, rfl⟩))
    all_goals
      go_wp2_with fail
      go_ret
      exact ⟨ret_bool HOK.out.symm, by repeat (first | exact HB2.out.alloc HB2.out.size _ | apply Below.drew)⟩
  · have hp' : ¬ rf (num z 0 1) (num z 1 2) (num z 3 1) (hdB z) (num z 5 2) (hsB z) (num z 7 2) (num z 9 2) = 0 := hp
    have hp2 : (rf (num z 0 1) (num z 1 2) (num z 3 1) (hdB z) (num z 5 2) (hsB z) (num z 7 2) (num z 9 2) == 0) = false := by simpa using hp'
    have HOK : Hid (okR z = false) := by show okR z = _; simp [okR, hp]
    simp only [if_neg hp'] at ho3 hcp3 ⊢
    generalize rf (num z 0 1) (num z 1 2) (num z 3 1) (hdB z) (num z 5 2) (hsB z) (num z 7 2) (num z 9 2) = c at *
    clear hp hp' ho3 hCd
    simp only [List.length_nil] at hcp3 ⊢
    have HBX := Box2.new w2 (.int .i64 c) (.slice a3 0 cap3) 205
    have HBY : Below w.heap.size w (w2.alloc (.cells #[.int .i64 c, .slice a3 0 cap3] 205)) := HB2.out.alloc HB2.out.size _
    go_wp2_with fail
    generalize w2.alloc (.cells #[.int .i64 c, .slice a3 0 cap3] 205) = wx at *
    obtain ⟨x0, x1⟩ := HBX
    have HBZ : Hid (Below w.heap.size w wx) := HBY
    clear HBY
    go_quiet (fail)
    go_wp2_with fail
    go_ret
    exact ⟨ret_bool HOK.out.symm, by repeat (first | exact HBZ.out | apply Below.drew | refine below_drewN ?_ _)⟩
theorem startsWith_short (n : Nat) (a : Option Addr) (cap : Nat) (w : World) (hn : n < 13) :
    Calls Tryz.prog 197 #[.slice a n cap] w fun e w' => e = .returned (.bool false) ∧ Below w.heap.size w w' := by
  have hn13 : (n : Int) < 13 := by omega
  go_enter Tryz.func197, Tryz.ntmps197
  go_wp2_with fail
  go_ret
  exact ⟨rfl, Below.refl _ _⟩
def sh (z : Nat → Int) (k i : Nat) : Int := z (k + i)
/-- The eight cells of the record that 13 bytes tell. -/
def rvl (z : Nat → Int) : List Value := [.int .i64 (num z 0 1), .int .i64 (num z 1 2), .int .i64 (num z 3 1), .bool (hdB z), .int .i64 (num z 5 2), .bool (hsB z), .int .i64 (num z 7 2), .int .i64 (num z 9 2)]
/-- The cells of the first k records. -/
def rvs (z : Nat → Int) : Nat → List Value
  | 0 => []
  | k + 1 => rvs z k ++ rvl (sh z (13 * k))
theorem rvl_one (z : Nat → Int) : ∀ u ∈ rvl z, u.oneCell' = true := by
  intro u hu
  simp only [rvl, List.mem_cons, List.mem_nil_iff, or_false] at hu
  rcases hu with rfl | rfl | rfl | rfl | rfl | rfl | rfl | rfl <;> rfl
/-- How many records stand at the beginning of n bytes, counted on from the k-th. -/
def rcn (z : Nat → Int) (n : Nat) : Nat → Nat → Nat
  | 0, k => k
  | f + 1, k => if 13 * (k + 1) ≤ n ∧ okR (sh z (13 * k)) = true then rcn z n f (k + 1) else k
def cnt (z : Nat → Int) (n : Nat) : Nat := rcn z n n 0
theorem rcn_at {z : Nat → Int} {n k : Nat} (h : 13 * (k + 1) ≤ n) (ho : okR (sh z (13 * k)) = true) : rcn z n (n - k) k = rcn z n (n - (k + 1)) (k + 1) := by
  have e : n - k = (n - (k + 1)) + 1 := by omega
  rw [e, rcn, if_pos ⟨h, ho⟩]
theorem rcn_end {z : Nat → Int} {n k : Nat} (h : ¬ (13 * (k + 1) ≤ n ∧ okR (sh z (13 * k)) = true)) : rcn z n (n - k) k = k := by
  cases hf : n - k with
  | zero => rfl
  | succ f => rw [rcn, if_neg h]
def slen : Value → Nat
  | .slice _ n _ => n
  | _ => 0
theorem info45 : (Tryz.prog.info? 105).map (fun i => (i.zero, i.size, i.bytes)) = some (some (.agg #[.int .i64 0, .int .i64 0, .int .i64 0, .bool false, .int .i64 0, .bool false, .int .i64 0, .int .i64 0]), 8, 64) := by kernel_rfl
theorem cell_eight_new (w : World) (z : Nat → Int) (t : TypeId) : ∀ j u, (rvl z)[j]? = some u → (w.alloc (.cells (rvl z).toArray t)).cell? ((⟨w.heap.size, 0, none⟩ : Addr).add j) = some u := by
  intro j u hj
  rw [WideShapes.add_plain]
  have hlt : j < 8 := by
    have := (List.getElem?_eq_some_iff.1 hj).1
    simpa [rvl] using this
  rcases (by omega : j = 0 ∨ j = 1 ∨ j = 2 ∨ j = 3 ∨ j = 4 ∨ j = 5 ∨ j = 6 ∨ j = 7) with rfl | rfl | rfl | rfl | rfl | rfl | rfl | rfl <;> (simp [rvl] at hj; subst hj; simp [rvl])
theorem slice_of_recs {w : World} {base n : Nat} {v : Value} {xs : List Value} (h : w.ownsRow base 105 8 v n xs) : ∃ a cap, v = .slice a n cap := by
  rcases h.2 with ⟨rfl, h0⟩ | ⟨g, cap, cur, rfl, _⟩
  · exact ⟨none, 0, by rw [h0]⟩
  · exact ⟨_, cap, rfl⟩
/-- Where a loop over records stands: what is older is as it was, the answer's box too, and a row of k records. -/
structure Rw (z : Nat → Int) (w W0 wr : World) (v : Value) (k : Nat) : Prop where
  below : Below w.heap.size w wr
  hsz : w.heap.size + 1 ≤ wr.heap.size
  res : wr.heap[w.heap.size]? = W0.heap[w.heap.size]?
  own : wr.ownsRow (w.heap.size + 1) 105 8 v k (rvs z k)
theorem rowR_below {W wq : World} {B n : Nat} {v : Value} {xs : List Value} (h : W.ownsRow B 105 8 v n xs) (hb : Below W.heap.size W wq) : wq.ownsRow B 105 8 v n xs := by
  refine ⟨h.1, ?_⟩
  rcases h.2 with h2 | ⟨g, cap, cur, hv, hbg, hg, r⟩
  · exact .inl h2
  · have hlt : g < W.heap.size := by obtain ⟨hlt, _⟩ := Array.getElem?_eq_some_iff.1 hg; exact hlt
    exact .inr ⟨g, cap, cur, hv, hbg, (hb.block g hlt).trans hg, r⟩
theorem Rw.mono {z : Nat → Int} {w W0 wr wq : World} {v : Value} {k : Nat} (h : Rw z w W0 wr v k) (hb : Below wr.heap.size wr wq) : Rw z w W0 wq v k :=
  ⟨below_then h.below hb, Nat.le_trans h.hsz hb.size, (hb.block _ (by have := h.hsz; omega)).trans h.res, rowR_below h.own hb⟩
theorem Rw.step {z : Nat → Int} {w W0 wr Wd w1 : World} {v v' : Value} {k : Nat} (h : Rw z w W0 wr v k) (hW : Below wr.heap.size wr Wd) (ho : w1.ownsRow (w.heap.size + 1) 105 8 v' (k + 1) (rvs z k ++ rvl (sh z (13 * k)))) (hg : Wd.grownBy w1 v.ownBlock) : Rw z w W0 w1 v' (k + 1) := by
  have hsz := h.hsz
  have hs2 := hW.size
  have hs3 := hg.size
  refine ⟨(h.below.trans (hW.mono (by omega))).grown hg (by omega) (fun q hq => by have := (h.own.lt q hq).1; omega), by omega, ?_, ho⟩
  exact (hg.block _ (by omega) (fun e => by have := (h.own.lt _ e.symm).1; omega)).trans ((hW.block _ (by omega)).trans h.res)
theorem rw_end {z : Nat → Int} {w W0 wr w7 : World} {ra : Option Addr} {rcp k : Nat} (h : Rw z w W0 wr (.slice ra k rcp) k) (hw : Writes w.heap.size (w.heap.size + 1) wr w7) :
    Below w.heap.size w w7 ∧ w7.ownsRow (w.heap.size + 1) 105 8 (.slice ra k rcp) k (rvs z k) := by
  refine ⟨Writes.below h.below hw (Nat.le_refl _), h.own.1, ?_⟩
  rcases h.own.2 with h2 | ⟨g, cap, cur, hv, hbg, hg, r⟩
  · exact .inl h2
  · have hlt : g < wr.heap.size := by obtain ⟨hlt, _⟩ := Array.getElem?_eq_some_iff.1 hg; exact hlt
    exact .inr ⟨g, cap, cur, hv, hbg, (hw.block g hlt (.inr (by omega))).trans hg, r⟩
/-- An answer that is records, or a code. -/
def RcR (c used : Int) (m : Nat) (z : Nat → Int) (w : World) (e : Ending) (w' : World) : Prop :=
  ∃ ra rcp, e = .returned (.agg #[.int .i64 c, .int .i64 used, .slice ra m rcp]) ∧ Below w.heap.size w w' ∧ w'.ownsRow (w.heap.size + 1) 105 8 (.slice ra m rcp) m (rvs z m)
set_option maxHeartbeats 4000000 in
theorem implUr_any (n : Nat) (z : Nat → Int) (a : Option Addr) (b off cap : Nat) (w : World) (hcap : n ≤ cap) (hn : n ≤ 4000) (hz : Byt n z) (ha : n = 0 ∨ a = some ⟨b, off, none⟩ ∧ b < w.heap.size ∧ BA w b off n z) :
    Calls Tryz.prog 159 #[.slice a n cap] w (RcR 0 (13 * (cnt z n : Int)) (cnt z n) z w) := by
  obtain ⟨i0, hi, hz0, hz1, hz2⟩ := info_parts info45
  have HI : Hid (Tryz.prog.info? 105 = some i0 ∧ i0.zero = some (.agg #[.int .i64 0, .int .i64 0, .int .i64 0, .bool false, .int .i64 0, .bool false, .int .i64 0, .int .i64 0]) ∧ i0.size = 8 ∧ i0.bytes = 64) := ⟨hi, hz0, hz1, hz2⟩
  have HZ : Hid (Byt n z) := hz
  have HA : Hid (n = 0 ∨ a = some ⟨b, off, none⟩ ∧ b < w.heap.size ∧ BA w b off n z) := ha
  have hn4 : ¬ (4000 < (n : Int)) := by omega
  have hn5 : ¬ (4000 < n) := by omega
  clear hi hz0 hz1 hz2 hz ha
  go_enter Tryz.func159, Tryz.ntmps159
  go_wp2_with fail
  go_loopw [3, 4] (fun r s wr => ∃ k rl rc : Nat, ∃ a' ra : Option Addr, ∃ rcp : Nat, s = .slice a' rl rc ∧ r = .slice ra k rcp ∧ rl + 13 * k = n ∧ rc + 13 * k = cap ∧ (rl = 0 ∨ a' = some ⟨b, off + 13 * k, none⟩) ∧ Hid (cnt z n = rcn z n (n - k) k) ∧ Hid (Rw z w (w.alloc (.cells #[.int .i64 0, .int .i64 0, .slice none 0 0] 199)) wr (.slice ra k rcp) k)) (fun _ s _ => slen s)
  case atStart => exact ⟨0, n, cap, a, none, 0, rfl, rfl, by omega, by omega, by rcases HA.out with h | h; exact .inl h; exact .inr h.1, rfl, ⟨below_new _ _, by rw [World.size_alloc]; omega, rfl, World.ownsRow_nil _ _ _ _⟩⟩
  case round =>
    obtain ⟨k, rl, rc, a', ra, rcp, rfl, rfl, hrl, hrc, haa, HC, HR⟩ := hrel
    by_cases h13 : 13 ≤ rl
    · rcases haa with h | rfl
      · omega
      rcases HA.out with h | ⟨-, hbl, hba⟩
      · omega
      have hZk : Byt 13 (sh z (13 * k)) := fun i hi => HZ.out _ (by omega)
      have hBk : ∀ W, Below w.heap.size w W → BA W b (off + 13 * k) 13 (sh z (13 * k)) := fun W hW i hi => by
        have := hba.below hW (13 * k + i) (by omega)
        rwa [← Nat.add_assoc] at this
      have hblr : b < wr.heap.size := by have := HR.out.hsz; omega
      have HBK : Hid (∀ W, Below w.heap.size w W → BA W b (off + 13 * k) 13 (sh z (13 * k))) := hBk
      have c13 : ¬ rc = 13 ∨ rc = 13 := by omega
      have d13 : (13 : Int) ≤ (rl : Int) := by omega
      have d14 : (13 : Int) ≤ (rc : Int) := by omega
      clear hba hBk
      by_cases hok : okR (sh z (13 * k)) = true
      · have HC1 : Hid (cnt z n = rcn z n (n - (k + 1)) (k + 1)) := HC.out.trans (rcn_at (by omega) hok)
        go_wp2_with fail
        refine (startsWith_some rl (sh z (13 * k)) b (off + 13 * k) rc wr h13 (by omega) hblr hZk (HBK.out wr HR.out.below)).mono ?_
        rintro e w1 ⟨rfl, hb1⟩
        rw [hok]
        have HR1 : Hid (Rw z w (w.alloc (.cells #[.int .i64 0, .int .i64 0, .slice none 0 0] 199)) w1 (.slice ra k rcp) k) := HR.out.mono hb1
        have hbl1 : b < w1.heap.size := by have := hb1.size; omega
        clear hb1
        go_wp2_with fail
        refine (readRec_some rl (sh z (13 * k)) b (off + 13 * k) rc w1 h13 (by omega) hbl1 hZk (HBK.out w1 HR1.out.below)).mono ?_
        rintro e w2 ⟨rfl, hb2⟩
        have HR2 : Hid (Rw z w (w.alloc (.cells #[.int .i64 0, .int .i64 0, .slice none 0 0] 199)) w2 (.slice ra k rcp) k) := HR1.out.mono hb2
        have HS2 : Hid (w.heap.size + 1 ≤ (w2.alloc (.cells (rvl (sh z (13 * k))).toArray 105)).heap.size) := by show _ ≤ (w2.alloc _).heap.size; rw [World.size_alloc]; have := HR2.out.hsz; omega
        clear hb2
        go_wp2_with (at_builtin; refine wpList_append_own _ rfl (.tmp 12) (.tmp 15) 83 rfl (w.heap.size + 1) 105 i0 (.agg #[.int .i64 0, .int .i64 0, .int .i64 0, .bool false, .int .i64 0, .bool false, .int .i64 0, .int .i64 0]) 8 64 Tryz.underlying83 HI.out.1 HI.out.2.1 HI.out.2.2.1 HI.out.2.2.2 rfl (by decide) (.slice ra k rcp) k (rvs z k) rfl (HR2.out.own.alloc _) ⟨w2.heap.size, 0, none⟩ 1 1 (rvl (sh z (13 * k))) rfl rfl (cell_eight_new _ _ _) (rvl_one _) ?c3 ?c4 ?c5 ?_)
        case c3 => unfold maxLen; omega
        case c4 => omega
        case c5 => exact HS2.out
        intro v1 w3 ho1 hg1 _
        obtain ⟨ra1, rp1, rfl⟩ := slice_of_recs ho1
        have HR3 : Hid (Rw z w (w.alloc (.cells #[.int .i64 0, .int .i64 0, .slice none 0 0] 199)) w3 (.slice ra1 (k + 1) rp1) (k + 1)) := HR2.out.step (below_new _ _) ho1 hg1
        clear ho1 hg1
        by_cases hc13 : rc = 13
        · go_wp2_with fail
          go_roundw
          case rel => exact ⟨k + 1, rl - 13, 0, _, ra1, rp1, rfl, rfl, by omega, by omega, .inl (by omega), HC1, HR3⟩
          case measure => simp [slen]; omega
        · go_wp2_with fail
          go_roundw
          case rel => exact ⟨k + 1, rl - 13, rc - 13, _, ra1, rp1, rfl, rfl, by omega, by omega, .inr (by rw [show off + 13 * (k + 1) = off + 13 * k + 13 by omega]), HC1, HR3⟩
          case measure => simp [slen]; omega
      · have hokf : okR (sh z (13 * k)) = false := by simpa using hok
        go_wp2_with fail
        refine (startsWith_some rl (sh z (13 * k)) b (off + 13 * k) rc wr h13 (by omega) hblr hZk (HBK.out wr HR.out.below)).mono ?_
        rintro e w1 ⟨rfl, hb1⟩
        rw [hokf]
        have HR1 : Hid (Rw z w (w.alloc (.cells #[.int .i64 0, .int .i64 0, .slice none 0 0] 199)) w1 (.slice ra k rcp) k) := HR.out.mono hb1
        clear hb1
        have HE : Hid (cnt z n = k) := HC.out.trans (rcn_end (by intro h; exact hok h.2))
        have hwu : IntKind.i64.wrap ((n : Int) - (rl : Int)) = 13 * (k : Int) := by rw [IntKind.wrap_i64]; omega
        have hrc2 : ∀ i x, (w.alloc (.cells #[.int .i64 0, .int .i64 0, .slice none 0 0] 199)).cell? ⟨w.heap.size, i, none⟩ = some x → w1.cell? ⟨w.heap.size, i, none⟩ = some x := fun i x hx => (World.cell?_of_block (w := (w.alloc (.cells #[.int .i64 0, .int .i64 0, .slice none 0 0] 199))) (a := ⟨w.heap.size, i, none⟩) HR1.out.res).trans hx
        have r0 := hrc2 0 (.int .i64 0) (by simp)
        have r1 := hrc2 1 (.int .i64 0) (by simp)
        have r2 := hrc2 2 (.slice none 0 0) (by simp)
        have rf : ∀ i, w1.frozen? ⟨w.heap.size, i, none⟩ = false := fun i => (World.frozen?_of_block (w := (w.alloc (.cells #[.int .i64 0, .int .i64 0, .slice none 0 0] 199))) (a := ⟨w.heap.size, i, none⟩) HR1.out.res).trans (by simp)
        clear hrc2
        go_wp2_with fail
        refine bodyPost_ret (v := .agg #[.int .i64 0, .int .i64 (13 * (k : Int)), .slice ra k rcp]) (by simp [results, Tryz.results159, go_sem, *]) rfl ?_
        rw [HE.out]
        refine ⟨ra, rcp, rfl, rw_end HR1.out ?_⟩
        repeat (first | exact Writes.refl _ _ _ | apply Writes.drew | refine Writes.setCell ?_ (by first | omega | (simp <;> omega)) (by first | omega | (simp <;> omega)) _)
    · go_wp2_with fail
      refine (startsWith_short rl a' rc wr (by omega)).mono ?_
      rintro e w1 ⟨rfl, hb1⟩
      have HR1 : Hid (Rw z w (w.alloc (.cells #[.int .i64 0, .int .i64 0, .slice none 0 0] 199)) w1 (.slice ra k rcp) k) := HR.out.mono hb1
      clear hb1
      have HE : Hid (cnt z n = k) := HC.out.trans (rcn_end (by intro h; omega))
      have hwu : IntKind.i64.wrap ((n : Int) - (rl : Int)) = 13 * (k : Int) := by rw [IntKind.wrap_i64]; omega
      have hrc2 : ∀ i x, (w.alloc (.cells #[.int .i64 0, .int .i64 0, .slice none 0 0] 199)).cell? ⟨w.heap.size, i, none⟩ = some x → w1.cell? ⟨w.heap.size, i, none⟩ = some x := fun i x hx => (World.cell?_of_block (w := (w.alloc (.cells #[.int .i64 0, .int .i64 0, .slice none 0 0] 199))) (a := ⟨w.heap.size, i, none⟩) HR1.out.res).trans hx
      have r0 := hrc2 0 (.int .i64 0) (by simp)
      have r1 := hrc2 1 (.int .i64 0) (by simp)
      have r2 := hrc2 2 (.slice none 0 0) (by simp)
      have rf : ∀ i, w1.frozen? ⟨w.heap.size, i, none⟩ = false := fun i => (World.frozen?_of_block (w := (w.alloc (.cells #[.int .i64 0, .int .i64 0, .slice none 0 0] 199))) (a := ⟨w.heap.size, i, none⟩) HR1.out.res).trans (by simp)
      clear hrc2
      go_wp2_with fail
      refine bodyPost_ret (v := .agg #[.int .i64 0, .int .i64 (13 * (k : Int)), .slice ra k rcp]) (by simp [results, Tryz.results159, go_sem, *]) rfl ?_
      rw [HE.out]
      refine ⟨ra, rcp, rfl, rw_end HR1.out ?_⟩
      repeat (first | exact Writes.refl _ _ _ | apply Writes.drew | refine Writes.setCell ?_ (by first | omega | (simp <;> omega)) (by first | omega | (simp <;> omega)) _)
end Go.Proofs.YtaokclhcmgbgnaaGreat
