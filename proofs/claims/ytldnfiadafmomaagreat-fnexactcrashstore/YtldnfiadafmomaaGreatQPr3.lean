/- spec.l3Pack: what is kept while rows are appended. -/
import Derived.Test.YtldnfiadafmomaaGreatQRf
import Derived.Test.YtldnfiadafmomaaGreatQDe
import Derived.Test.YtldnfiadafmomaaGreatQPut
import Derived.Deep.RegionLaw
namespace Go.Proofs.YtldnfiadafmomaaGreat
open Go.RowKit Go.Deep
set_option linter.unusedVariables false
set_option maxRecDepth 20000

set_option maxHeartbeats 2000000 in
theorem implPr_any (k t key : Int) (hd : Bool) (old : Int) (hs : Bool) (nw bk : Int) (w : World) :
    Calls Tryz.prog 117 #[.agg #[.int .i64 k, .int .i64 t, .int .i64 key, .bool hd, .int .i64 old, .bool hs, .int .i64 nw, .int .i64 bk]] w (BRes2 (rf k t key hd old hs nw bk) (rb k t key hd old hs nw bk) w) := by
  have hb0 : ∀ o1 o2, Below w.heap.size w ((w.alloc o1).alloc o2) := fun o1 o2 => ((Below.refl _ _).alloc (Nat.le_refl _) _).alloc (by simp) _
  by_cases h0 : rf k t key hd old hs nw bk = 0
  · have HG : Hid (GoodR k t key hd old hs nw bk) := goodR_of k t key hd old hs nw bk h0
    have E : Hid (rf k t key hd old hs nw bk = 0) := h0
    go_enter Tryz.func117, Tryz.ntmps117
    go_wp2_with fail
    refine (implRf_any k t key hd old hs nw bk _).mono ?_
    rintro e w1 ⟨rfl, hb1⟩
    rw [h0]
    obtain ⟨hc, hf⟩ := bcell hb1
    have hz : w.heap.size + 1 < w1.heap.size := by have hq := hb1.size; simp at hq; omega
    have k0 : w1.cell? ⟨w.heap.size, 0, none⟩ = some (.int .i64 k) := by rw [hc _ _ (by simp <;> omega)]; simp [go_sem]
    have k1 : w1.cell? ⟨w.heap.size, 1, none⟩ = some (.int .i64 t) := by rw [hc _ _ (by simp <;> omega)]; simp [go_sem]
    have k2 : w1.cell? ⟨w.heap.size, 2, none⟩ = some (.int .i64 key) := by rw [hc _ _ (by simp <;> omega)]; simp [go_sem]
    have k3 : w1.cell? ⟨w.heap.size, 3, none⟩ = some (.bool hd) := by rw [hc _ _ (by simp <;> omega)]; simp [go_sem]
    have k4 : w1.cell? ⟨w.heap.size, 4, none⟩ = some (.int .i64 old) := by rw [hc _ _ (by simp <;> omega)]; simp [go_sem]
    have k5 : w1.cell? ⟨w.heap.size, 5, none⟩ = some (.bool hs) := by rw [hc _ _ (by simp <;> omega)]; simp [go_sem]
    have k6 : w1.cell? ⟨w.heap.size, 6, none⟩ = some (.int .i64 nw) := by rw [hc _ _ (by simp <;> omega)]; simp [go_sem]
    have k7 : w1.cell? ⟨w.heap.size, 7, none⟩ = some (.int .i64 bk) := by rw [hc _ _ (by simp <;> omega)]; simp [go_sem]
    have r0 : w1.cell? ⟨w.heap.size + 1, 0, none⟩ = some (.int .i64 0) := by simp [hc]
    have r1 : w1.cell? ⟨w.heap.size + 1, 1, none⟩ = some (.slice none 0 0) := by simp [hc]
    have f0 : ∀ i, w1.frozen? ⟨w.heap.size + 1, i, none⟩ = false := fun i => by simp [hf, go_sem]
    have m0 := fun o : Obj => cell_alloc k0 o
    have m1 := fun o : Obj => cell_alloc k1 o
    have m2 := fun o : Obj => cell_alloc k2 o
    have m3 := fun o : Obj => cell_alloc k3 o
    have m4 := fun o : Obj => cell_alloc k4 o
    have m5 := fun o : Obj => cell_alloc k5 o
    have m6 := fun o : Obj => cell_alloc k6 o
    have m7 := fun o : Obj => cell_alloc k7 o
    have HB : Hid (Below w.heap.size w w1) := below_then (hb0 _ _) hb1
    clear h0 hc hf hb1 hb0
    go_wp2_with fail
    refine (putRec_any w1.heap.size k t key hd old hs nw bk (w1.alloc (.cells #[.slice none 0 0] 172)) HG.out (by simp) ⟨by simp, by simp, World.ownsRow_nil _ _ _ _⟩).mono ?_
    rintro e w3 ⟨rfl, v3, hm3, hos, htape, hout, hsz3, hblk⟩
    obtain ⟨a3, cap3, rfl, ho3⟩ := ownB_of_row hm3.2.2
    have HCP : Hid ((rb k t key hd old hs nw bk).length ≤ cap3) := own_cap hm3.2.2
    have hc3 := hm3.1
    have hs3 : w1.heap.size + 1 ≤ w3.heap.size := by rw [World.size_alloc] at hsz3; exact hsz3
    have hbk : ∀ k, k < w1.heap.size → w3.heap[k]? = w1.heap[k]? := fun k hk => (hblk k (by rw [World.size_alloc]; omega) (by omega)).trans (Below.heap_alloc _ _ _ hk)
    have t0 : w3.cell? ⟨w.heap.size + 1, 0, none⟩ = some (.int .i64 0) := (World.cell?_of_block (w := w1) (a := ⟨w.heap.size + 1, 0, none⟩) (hbk _ hz)).trans r0
    have t1 : w3.cell? ⟨w.heap.size + 1, 1, none⟩ = some (.slice none 0 0) := (World.cell?_of_block (w := w1) (a := ⟨w.heap.size + 1, 1, none⟩) (hbk _ hz)).trans r1
    have fz : ∀ i, w3.frozen? ⟨w.heap.size + 1, i, none⟩ = false := fun i => (World.frozen?_of_block (w := w1) (a := ⟨w.heap.size + 1, i, none⟩) (hbk _ hz)).trans (f0 i)
    have HB3 : Hid (Below w.heap.size w w3) := ⟨hos.trans HB.out.os, htape.trans HB.out.tape, hout.trans HB.out.output, by have := HB.out.size; omega, fun k hk => (hbk k (by omega)).trans (HB.out.block k hk)⟩
    have HO3 : Hid (OwnB w3 ((w1.alloc (.cells #[.slice none 0 0] 172)).heap.size + 1) w3.heap.size a3 (rb k t key hd old hs nw bk).length (zOf (rb k t key hd old hs nw bk))) := ho3
    generalize rb k t key hd old hs nw bk = Z at *
    clear hm3 ho3 hblk hbk hos htape hout hsz3 r0 r1 f0 m0 m1 m2 m3 m4 m5 m6 m7 k0 k1 k2 k3 k4 k5 k6 k7
    go_wp2_with fail
    refine bodyPost_ret (v := .agg #[.int .i64 0, .slice a3 Z.length cap3]) (by simp [results, Tryz.results117, go_sem, *]) rfl ?_
    refine bres2_ok E HB3.out ?_ HO3.out ?_ (by simp [World.setCell]) HCP.out
    · rw [World.size_alloc]; omega
    · repeat (first | exact Writes.refl _ _ _ | apply Writes.drew | refine Writes.setCell ?_ (by first | omega | (simp <;> omega)) (by first | omega | (simp <;> omega)) _)
  · have hdd : (rf k t key hd old hs nw bk != 0) = true := by simpa using h0
    have HNZ : Hid (rf k t key hd old hs nw bk ≠ 0) := h0
    go_enter Tryz.func117, Tryz.ntmps117
    go_wp2_with fail
    refine (implRf_any k t key hd old hs nw bk _).mono ?_
    rintro e w1 ⟨rfl, hb1⟩
    obtain ⟨hc, hf⟩ := bcell hb1
    generalize rf k t key hd old hs nw bk = c at *
    clear h0
    go_wp2_with fail
    refine bodyPost_ret (v := .agg #[.int .i64 c, .slice none 0 0]) (by simp [results, Tryz.results117, go_sem, hc]) rfl ?_
    refine bres2_bad ?_ HNZ.out
    repeat (first | exact below_then (hb0 _ _) hb1 | refine Below.setCell ?_ (by first | omega | (simp <;> omega)) _)
theorem and1_all : ∀ x : Fin 256, bits .and .u64 (x.val : Int) 1 = (x.val : Int) % 2 := by decide +kernel
theorem and2_all : ∀ x : Fin 256, bits .and .u64 (x.val : Int) 2 = (x.val : Int) / 2 % 2 * 2 := by decide +kernel
theorem and1 {x : Int} (h0 : 0 ≤ x) (h1 : x ≤ 255) : bits .and .u64 x 1 = x % 2 := by
  have h := and1_all ⟨x.toNat, by omega⟩
  have e : ((x.toNat : Nat) : Int) = x := by omega
  simpa [e] using h
theorem andTwo {x : Int} (h0 : 0 ≤ x) (h1 : x ≤ 255) : bits .and .u64 x 2 = x / 2 % 2 * 2 := by
  have h := and2_all ⟨x.toNat, by omega⟩
  have e : ((x.toNat : Nat) : Int) = x := by omega
  simpa [e] using h
def hdB (z : Nat → Int) : Bool := z 4 % 2 == 1
def hsB (z : Nat → Int) : Bool := z 4 / 2 % 2 == 1
theorem hdB_eq {z : Nat → Int} (h0 : 0 ≤ z 4) (h1 : z 4 ≤ 255) : (bits .and .u64 (z 4) 1 != 0) = hdB z := by
  rw [and1 h0 h1, hdB]
  have : z 4 % 2 = 0 ∨ z 4 % 2 = 1 := by omega
  rcases this with h | h <;> rw [h] <;> rfl
theorem hsB_eq {z : Nat → Int} (h0 : 0 ≤ z 4) (h1 : z 4 ≤ 255) : (bits .and .u64 (z 4) 2 != 0) = hsB z := by
  rw [andTwo h0 h1, hsB]
  have : z 4 / 2 % 2 = 0 ∨ z 4 / 2 % 2 = 1 := by omega
  rcases this with h | h <;> rw [h] <;> rfl
theorem ba_ad {w : World} {b off n : Nat} {z : Nat → Int} (h : BA w b off n z) (o : Obj) : BA (w.alloc o).drew b off n z := h.alloc o
set_option maxHeartbeats 4000000 in
theorem readRec_some (n : Nat) (z : Nat → Int) (b off cap : Nat) (w : World) (hn : 13 ≤ n) (hcap : n ≤ cap) (hbl : b < w.heap.size) (hz : Byt 13 z) (hc : BA w b off 13 z) :
    Calls Tryz.prog 101 #[.slice (some ⟨b, off, none⟩) n cap] w fun e w' =>
      e = .returned (.agg #[.int .i64 (num z 0 1), .int .i64 (num z 1 2), .int .i64 (num z 3 1), .bool (hdB z), .int .i64 (num z 5 2), .bool (hsB z), .int .i64 (num z 7 2), .int .i64 (num z 9 2)]) ∧ Below w.heap.size w w' := by
  have HZ : Hid (Byt 13 z) := hz
  have hz4 := hz 4 (by decide)
  have c1 : ¬ cap = 1 := by omega
  have c3 : ¬ cap = 3 := by omega
  have c5 : ¬ cap = 5 := by omega
  have c7 : ¬ cap = 7 := by omega
  have c9 : ¬ cap = 9 := by omega
  have d1 : (1 : Int) ≤ (cap : Int) := by omega
  have d3 : (3 : Int) ≤ (cap : Int) := by omega
  have d4 : (4 : Int) ≤ (cap : Int) := by omega
  have d7 : (7 : Int) ≤ (cap : Int) := by omega
  have d9 : (9 : Int) ≤ (cap : Int) := by omega
  have d11 : (11 : Int) ≤ (cap : Int) := by omega
  have dn : (4 : Int) < (n : Int) := by omega
  have hbn : b ≠ w.heap.size := by omega
  have hw4 : IntKind.u64.wrap (z 4) = z 4 := by rw [IntKind.wrap_u64]; omega
  have HHD := hdB_eq hz4.1 hz4.2
  have HHS := hsB_eq hz4.1 hz4.2
  have hA : BA (w.alloc (.cells #[.int .i64 0, .int .i64 0, .int .i64 0, .bool false, .int .i64 0, .bool false, .int .i64 0, .int .i64 0] 141)) b off 13 z := hc.alloc _
  have h4 := hA 4 (by decide)
  have hA0 : BA (w.alloc (.cells #[.int .i64 0, .int .i64 0, .int .i64 0, .bool false, .int .i64 0, .bool false, .int .i64 0, .int .i64 0] 141)).drew b off 13 z := hA
  have hcw : BA w b off 13 z := hc
  clear hz hc hz4
  go_enter Tryz.func101, Tryz.ntmps101
  go_wp2_with fail
  go_region_held3 (fun w' => BA w' b off 13 z) (first | with_reducible assumption | with_reducible exact ba_ad hcw _ | go_keep)
    (first | (go_at_call 119; refine (readNumG z b off 13 _ (by with_reducible assumption) HZ.out (by decide) (by omega) (by omega)).mono ?_; rintro e w' ⟨rfl, rfl⟩; simp only [Nat.add_sub_cancel_left, Nat.sub_self]))
  all_goals
    go_wp2_with fail
    refine bodyPost_ret (v := .agg #[.int .i64 (num z 0 1), .int .i64 (num z 1 2), .int .i64 (num z 3 1), .bool (hdB z), .int .i64 (num z 5 2), .bool (hsB z), .int .i64 (num z 7 2), .int .i64 (num z 9 2)]) (by simp [results, Tryz.results101, go_sem]) rfl ⟨rfl, ?_⟩
    repeat (first | exact (below_new _ _).drew | exact below_new _ _ | apply Below.drew | refine Below.setCell ?_ (by first | omega | (simp <;> omega)) _)
/-- The fault and the bytes of the record that 13 bytes tell. -/
def rzF (z : Nat → Int) : Int := rf (num z 0 1) (num z 1 2) (num z 3 1) (hdB z) (num z 5 2) (hsB z) (num z 7 2) (num z 9 2)
def rzB (z : Nat → Int) : List Int := rb (num z 0 1) (num z 1 2) (num z 3 1) (hdB z) (num z 5 2) (hsB z) (num z 7 2) (num z 9 2)
/-- Do the 13 bytes tell a record whose bytes they are? -/
def okR (z : Nat → Int) : Bool := decide (rzF z = 0) && decide (rzB z = zL z 13)
theorem rzB_len (z : Nat → Int) : (rzB z).length = 13 := rb_len _ _ _ _ _ _ _ _
set_option maxHeartbeats 4000000 in
theorem startsWith_some (n : Nat) (z : Nat → Int) (b off cap : Nat) (w : World) (hn : 13 ≤ n) (hcap : n ≤ cap) (hbl : b < w.heap.size) (hz : Byt 13 z) (hc : BA w b off 13 z) :
    Calls Tryz.prog 100 #[.slice (some ⟨b, off, none⟩) n cap] w fun e w' => e = .returned (.bool (okR z)) ∧ Below w.heap.size w w' := by
  have HZ : Hid (Byt 13 z) := hz
  have HC : Hid (BA w b off 13 z) := hc
  have hn13 : ¬ ((n : Int) < 13) := by omega
  have d13 : (13 : Int) ≤ (cap : Int) := by omega
  clear hz hc
  go_enter Tryz.func100, Tryz.ntmps100
  go_wp2_with fail
  refine (readRec_some n z b off cap w hn hcap hbl HZ.out HC.out).mono ?_
  rintro e w1 ⟨rfl, hb1⟩
  go_wp2_with fail
  refine (implPr_any (num z 0 1) (num z 1 2) (num z 3 1) (hdB z) (num z 5 2) (hsB z) (num z 7 2) (num z 9 2) w1).mono ?_
  rintro e w2 ⟨a3, cap3, rfl, hb2, ho3, hcp3⟩
  have HB2 : Hid (Below w.heap.size w w2) := below_then hb1 hb2
  have hCd : BA w2 b off 13 z := HC.out.below HB2.out
  clear hb1 hb2
  by_cases hp : rzF z = 0
  · have hp' : rf (num z 0 1) (num z 1 2) (num z 3 1) (hdB z) (num z 5 2) (hsB z) (num z 7 2) (num z 9 2) = 0 := hp
    have HOK : Hid (okR z = decide (rzB z = zL z 13)) := by show okR z = _; simp [okR, hp]
    rw [hp'] at ho3 hcp3 ⊢
    simp only [if_true] at ho3 hcp3 ⊢
    rw [rb_len] at ho3 hcp3 ⊢
    rcases ho3.2 with h | ⟨g3, o3, rfl, h31, h32, h33, h34⟩
    · cases h
    have hE : ∀ W : World, (∀ i, i < 13 → W.cell? ⟨g3, o3 + i, none⟩ = some (.int .u8 (zOf (rzB z) i))) → BA W b off 13 z → Calls Tryz.prog 118 #[.slice (some ⟨g3, o3, none⟩) 13 cap3, .slice (some ⟨b, off, none⟩) 13 cap] W fun e w' => e = .returned (.bool (decide (rzB z = zL z 13))) ∧ w' = W := fun W h1 h2 => by
      have hE := equal_some (rzB z) (zL z 13) g3 o3 cap3 b off cap W (fun x hx => rb_byt _ _ _ _ _ _ _ _ x hx) (zL_byt HZ.out) (fun i hi => by
        rw [rzB_len] at hi
        exact h1 i hi) (fun i hi => by
        rw [zL_len] at hi
        rw [zL_get _ _ _ hi]
        exact h2 i hi)
      rw [rzB_len, zL_len] at hE
      exact hE
    have HE : Hid _ := hE (w2.alloc (.cells #[.int .i64 0, .slice (some ⟨g3, o3, none⟩) 13 cap3] 162)).drew (fun i hi => cell_alloc (h33 i hi) (.cells #[.int .i64 0, .slice (some ⟨g3, o3, none⟩) 13 cap3] 162)) (hCd.alloc _)
    clear hE h31 h32 h33 h34 ho3 hCd hp hp'
    have HBX := Box2.new w2 (.int .i64 0) (.slice (some ⟨g3, o3, none⟩) 13 cap3) 162
    obtain ⟨x0, x1⟩ := HBX
    go_wp2_with fail
    go_region_held3 (fun w' => w'.cell? ⟨w2.heap.size, 0, none⟩ = some (.int .i64 0) ∧ w'.cell? ⟨w2.heap.size, 1, none⟩ = some (.slice (some ⟨g3, o3, none⟩) 13 cap3)) (go_keep)
      (first | (go_at_call 118; refine Calls.mono HE.out ?_; rintro e w' ⟨rfl, rfl⟩))
    all_goals
      go_wp2_with fail
      go_ret
      exact ⟨ret_bool HOK.out.symm, by repeat (first | exact HB2.out.alloc HB2.out.size _ | apply Below.drew)⟩
  · have hp' : ¬ rf (num z 0 1) (num z 1 2) (num z 3 1) (hdB z) (num z 5 2) (hsB z) (num z 7 2) (num z 9 2) = 0 := hp
    have hp2 : (rf (num z 0 1) (num z 1 2) (num z 3 1) (hdB z) (num z 5 2) (hsB z) (num z 7 2) (num z 9 2) == 0) = false := by simpa using hp'
    have HOK : Hid (okR z = false) := by show okR z = _; simp [okR, hp]
    simp only [if_neg hp'] at ho3 hcp3 ⊢
    generalize rf (num z 0 1) (num z 1 2) (num z 3 1) (hdB z) (num z 5 2) (hsB z) (num z 7 2) (num z 9 2) = c at *
    clear hp hp' ho3 hCd
    simp only [List.length_nil] at hcp3 ⊢
    have HBX := Box2.new w2 (.int .i64 c) (.slice a3 0 cap3) 162
    have HBY : Below w.heap.size w (w2.alloc (.cells #[.int .i64 c, .slice a3 0 cap3] 162)) := HB2.out.alloc HB2.out.size _
    go_wp2_with fail
    generalize w2.alloc (.cells #[.int .i64 c, .slice a3 0 cap3] 162) = wx at *
    obtain ⟨x0, x1⟩ := HBX
    have HBZ : Hid (Below w.heap.size w wx) := HBY
    clear HBY
    go_quiet (fail)
    go_wp2_with fail
    go_ret
    exact ⟨ret_bool HOK.out.symm, by repeat (first | exact HBZ.out | apply Below.drew | refine below_drewN ?_ _)⟩
theorem startsWith_short (n : Nat) (a : Option Addr) (cap : Nat) (w : World) (hn : n < 13) :
    Calls Tryz.prog 100 #[.slice a n cap] w fun e w' => e = .returned (.bool false) ∧ Below w.heap.size w w' := by
  have hn13 : (n : Int) < 13 := by omega
  go_enter Tryz.func100, Tryz.ntmps100
  go_wp2_with fail
  go_ret
  exact ⟨rfl, Below.refl _ _⟩
def sh (z : Nat → Int) (k i : Nat) : Int := z (k + i)
/-- The eight cells of the record that 13 bytes tell. -/
def rvl (z : Nat → Int) : List Value := [.int .i64 (num z 0 1), .int .i64 (num z 1 2), .int .i64 (num z 3 1), .bool (hdB z), .int .i64 (num z 5 2), .bool (hsB z), .int .i64 (num z 7 2), .int .i64 (num z 9 2)]
/-- The cells of the first k records. -/
def rvs (z : Nat → Int) : Nat → List Value
  | 0 => []
  | k + 1 => rvs z k ++ rvl (sh z (13 * k))
theorem rvl_one (z : Nat → Int) : ∀ u ∈ rvl z, u.oneCell' = true := by
  intro u hu
  simp only [rvl, List.mem_cons, List.mem_nil_iff, or_false] at hu
  rcases hu with rfl | rfl | rfl | rfl | rfl | rfl | rfl | rfl <;> rfl
/-- How many records stand at the beginning of n bytes, counted on from the k-th. -/
def rcn (z : Nat → Int) (n : Nat) : Nat → Nat → Nat
  | 0, k => k
  | f + 1, k => if 13 * (k + 1) ≤ n ∧ okR (sh z (13 * k)) = true then rcn z n f (k + 1) else k
def cnt (z : Nat → Int) (n : Nat) : Nat := rcn z n n 0
theorem rcn_at {z : Nat → Int} {n k : Nat} (h : 13 * (k + 1) ≤ n) (ho : okR (sh z (13 * k)) = true) : rcn z n (n - k) k = rcn z n (n - (k + 1)) (k + 1) := by
  have e : n - k = (n - (k + 1)) + 1 := by omega
  rw [e, rcn, if_pos ⟨h, ho⟩]
theorem rcn_end {z : Nat → Int} {n k : Nat} (h : ¬ (13 * (k + 1) ≤ n ∧ okR (sh z (13 * k)) = true)) : rcn z n (n - k) k = k := by
  cases hf : n - k with
  | zero => rfl
  | succ f => rw [rcn, if_neg h]
def slen : Value → Nat
  | .slice _ n _ => n
  | _ => 0
theorem info45 : (Tryz.prog.info? 141).map (fun i => (i.zero, i.size, i.bytes)) = some (some (.agg #[.int .i64 0, .int .i64 0, .int .i64 0, .bool false, .int .i64 0, .bool false, .int .i64 0, .int .i64 0]), 8, 64) := by kernel_rfl
theorem cell_eight_new (w : World) (z : Nat → Int) (t : TypeId) : ∀ j u, (rvl z)[j]? = some u → (w.alloc (.cells (rvl z).toArray t)).cell? ((⟨w.heap.size, 0, none⟩ : Addr).add j) = some u := by
  intro j u hj
  rw [WideShapes.add_plain]
  have hlt : j < 8 := by
    have := (List.getElem?_eq_some_iff.1 hj).1
    simpa [rvl] using this
  rcases (by omega : j = 0 ∨ j = 1 ∨ j = 2 ∨ j = 3 ∨ j = 4 ∨ j = 5 ∨ j = 6 ∨ j = 7) with rfl | rfl | rfl | rfl | rfl | rfl | rfl | rfl <;> (simp [rvl] at hj; subst hj; simp [rvl])
theorem slice_of_recs {w : World} {base n : Nat} {v : Value} {xs : List Value} (h : w.ownsRow base 141 8 v n xs) : ∃ a cap, v = .slice a n cap := by
  rcases h.2 with ⟨rfl, h0⟩ | ⟨g, cap, cur, rfl, _⟩
  · exact ⟨none, 0, by rw [h0]⟩
  · exact ⟨_, cap, rfl⟩
/-- Where a loop over records stands: what is older is as it was, the answer's box too, and a row of k records. -/
structure Rw (z : Nat → Int) (w W0 wr : World) (v : Value) (k : Nat) : Prop where
  below : Below w.heap.size w wr
  hsz : w.heap.size + 1 ≤ wr.heap.size
  res : wr.heap[w.heap.size]? = W0.heap[w.heap.size]?
  own : wr.ownsRow (w.heap.size + 1) 141 8 v k (rvs z k)
theorem rowR_below {W wq : World} {B n : Nat} {v : Value} {xs : List Value} (h : W.ownsRow B 141 8 v n xs) (hb : Below W.heap.size W wq) : wq.ownsRow B 141 8 v n xs := by
  refine ⟨h.1, ?_⟩
  rcases h.2 with h2 | ⟨g, cap, cur, hv, hbg, hg, r⟩
  · exact .inl h2
  · have hlt : g < W.heap.size := by obtain ⟨hlt, _⟩ := Array.getElem?_eq_some_iff.1 hg; exact hlt
    exact .inr ⟨g, cap, cur, hv, hbg, (hb.block g hlt).trans hg, r⟩
theorem Rw.mono {z : Nat → Int} {w W0 wr wq : World} {v : Value} {k : Nat} (h : Rw z w W0 wr v k) (hb : Below wr.heap.size wr wq) : Rw z w W0 wq v k :=
  ⟨below_then h.below hb, Nat.le_trans h.hsz hb.size, (hb.block _ (by have := h.hsz; omega)).trans h.res, rowR_below h.own hb⟩
theorem Rw.step {z : Nat → Int} {w W0 wr Wd w1 : World} {v v' : Value} {k : Nat} (h : Rw z w W0 wr v k) (hW : Below wr.heap.size wr Wd) (ho : w1.ownsRow (w.heap.size + 1) 141 8 v' (k + 1) (rvs z k ++ rvl (sh z (13 * k)))) (hg : Wd.grownBy w1 v.ownBlock) : Rw z w W0 w1 v' (k + 1) := by
  have hsz := h.hsz
  have hs2 := hW.size
  have hs3 := hg.size
  refine ⟨(h.below.trans (hW.mono (by omega))).grown hg (by omega) (fun q hq => by have := (h.own.lt q hq).1; omega), by omega, ?_, ho⟩
  exact (hg.block _ (by omega) (fun e => by have := (h.own.lt _ e.symm).1; omega)).trans ((hW.block _ (by omega)).trans h.res)
theorem rw_end {z : Nat → Int} {w W0 wr w7 : World} {ra : Option Addr} {rcp k : Nat} (h : Rw z w W0 wr (.slice ra k rcp) k) (hw : Writes w.heap.size (w.heap.size + 1) wr w7) :
    Below w.heap.size w w7 ∧ w7.ownsRow (w.heap.size + 1) 141 8 (.slice ra k rcp) k (rvs z k) := by
  refine ⟨Writes.below h.below hw (Nat.le_refl _), h.own.1, ?_⟩
  rcases h.own.2 with h2 | ⟨g, cap, cur, hv, hbg, hg, r⟩
  · exact .inl h2
  · have hlt : g < wr.heap.size := by obtain ⟨hlt, _⟩ := Array.getElem?_eq_some_iff.1 hg; exact hlt
    exact .inr ⟨g, cap, cur, hv, hbg, (hw.block g hlt (.inr (by omega))).trans hg, r⟩
/-- An answer that is records, or a code. -/
def RcR (c used : Int) (m : Nat) (z : Nat → Int) (w : World) (e : Ending) (w' : World) : Prop :=
  ∃ ra rcp, e = .returned (.agg #[.int .i64 c, .int .i64 used, .slice ra m rcp]) ∧ Below w.heap.size w w' ∧ w'.ownsRow (w.heap.size + 1) 141 8 (.slice ra m rcp) m (rvs z m)
set_option maxHeartbeats 4000000 in
theorem implUr_any (n : Nat) (z : Nat → Int) (a : Option Addr) (b off cap : Nat) (w : World) (hcap : n ≤ cap) (hn : n ≤ 4000) (hz : Byt n z) (ha : n = 0 ∨ a = some ⟨b, off, none⟩ ∧ b < w.heap.size ∧ BA w b off n z) :
    Calls Tryz.prog 69 #[.slice a n cap] w (RcR 0 (13 * (cnt z n : Int)) (cnt z n) z w) := by
  obtain ⟨i0, hi, hz0, hz1, hz2⟩ := info_parts info45
  have HI : Hid (Tryz.prog.info? 141 = some i0 ∧ i0.zero = some (.agg #[.int .i64 0, .int .i64 0, .int .i64 0, .bool false, .int .i64 0, .bool false, .int .i64 0, .int .i64 0]) ∧ i0.size = 8 ∧ i0.bytes = 64) := ⟨hi, hz0, hz1, hz2⟩
  have HZ : Hid (Byt n z) := hz
  have HA : Hid (n = 0 ∨ a = some ⟨b, off, none⟩ ∧ b < w.heap.size ∧ BA w b off n z) := ha
  have hn4 : ¬ (4000 < (n : Int)) := by omega
  have hn5 : ¬ (4000 < n) := by omega
  clear hi hz0 hz1 hz2 hz ha
  go_enter Tryz.func69, Tryz.ntmps69
  go_wp2_with fail
  go_loopw [3, 4] (fun r s wr => ∃ k rl rc : Nat, ∃ a' ra : Option Addr, ∃ rcp : Nat, s = .slice a' rl rc ∧ r = .slice ra k rcp ∧ rl + 13 * k = n ∧ rc + 13 * k = cap ∧ (rl = 0 ∨ a' = some ⟨b, off + 13 * k, none⟩) ∧ Hid (cnt z n = rcn z n (n - k) k) ∧ Hid (Rw z w (w.alloc (.cells #[.int .i64 0, .int .i64 0, .slice none 0 0] 113)) wr (.slice ra k rcp) k)) (fun _ s _ => slen s)
  case atStart => exact ⟨0, n, cap, a, none, 0, rfl, rfl, by omega, by omega, by rcases HA.out with h | h; exact .inl h; exact .inr h.1, rfl, ⟨below_new _ _, by rw [World.size_alloc]; omega, rfl, World.ownsRow_nil _ _ _ _⟩⟩
  case round =>
    obtain ⟨k, rl, rc, a', ra, rcp, rfl, rfl, hrl, hrc, haa, HC, HR⟩ := hrel
    by_cases h13 : 13 ≤ rl
    · rcases haa with h | rfl
      · omega
      rcases HA.out with h | ⟨-, hbl, hba⟩
      · omega
      have hZk : Byt 13 (sh z (13 * k)) := fun i hi => HZ.out _ (by omega)
      have hBk : ∀ W, Below w.heap.size w W → BA W b (off + 13 * k) 13 (sh z (13 * k)) := fun W hW i hi => by
        have := hba.below hW (13 * k + i) (by omega)
        rwa [← Nat.add_assoc] at this
      have hblr : b < wr.heap.size := by have := HR.out.hsz; omega
      have HBK : Hid (∀ W, Below w.heap.size w W → BA W b (off + 13 * k) 13 (sh z (13 * k))) := hBk
      have c13 : ¬ rc = 13 ∨ rc = 13 := by omega
      have d13 : (13 : Int) ≤ (rl : Int) := by omega
      have d14 : (13 : Int) ≤ (rc : Int) := by omega
      clear hba hBk
      by_cases hok : okR (sh z (13 * k)) = true
      · have HC1 : Hid (cnt z n = rcn z n (n - (k + 1)) (k + 1)) := HC.out.trans (rcn_at (by omega) hok)
        go_wp2_with fail
        refine (startsWith_some rl (sh z (13 * k)) b (off + 13 * k) rc wr h13 (by omega) hblr hZk (HBK.out wr HR.out.below)).mono ?_
        rintro e w1 ⟨rfl, hb1⟩
        rw [hok]
        have HR1 : Hid (Rw z w (w.alloc (.cells #[.int .i64 0, .int .i64 0, .slice none 0 0] 113)) w1 (.slice ra k rcp) k) := HR.out.mono hb1
        have hbl1 : b < w1.heap.size := by have := hb1.size; omega
        clear hb1
        go_wp2_with fail
        refine (readRec_some rl (sh z (13 * k)) b (off + 13 * k) rc w1 h13 (by omega) hbl1 hZk (HBK.out w1 HR1.out.below)).mono ?_
        rintro e w2 ⟨rfl, hb2⟩
        have HR2 : Hid (Rw z w (w.alloc (.cells #[.int .i64 0, .int .i64 0, .slice none 0 0] 113)) w2 (.slice ra k rcp) k) := HR1.out.mono hb2
        have HS2 : Hid (w.heap.size + 1 ≤ (w2.alloc (.cells (rvl (sh z (13 * k))).toArray 141)).heap.size) := by show _ ≤ (w2.alloc _).heap.size; rw [World.size_alloc]; have := HR2.out.hsz; omega
        clear hb2
        go_wp2_with (at_builtin; refine wpList_append_own _ rfl (.tmp 12) (.tmp 15) 111 rfl (w.heap.size + 1) 141 i0 (.agg #[.int .i64 0, .int .i64 0, .int .i64 0, .bool false, .int .i64 0, .bool false, .int .i64 0, .int .i64 0]) 8 64 Tryz.underlying111 HI.out.1 HI.out.2.1 HI.out.2.2.1 HI.out.2.2.2 rfl (by decide) (.slice ra k rcp) k (rvs z k) rfl (HR2.out.own.alloc _) ⟨w2.heap.size, 0, none⟩ 1 1 (rvl (sh z (13 * k))) rfl rfl (cell_eight_new _ _ _) (rvl_one _) ?c3 ?c4 ?c5 ?_)
        case c3 => unfold maxLen; omega
        case c4 => omega
        case c5 => exact HS2.out
        intro v1 w3 ho1 hg1 _
        obtain ⟨ra1, rp1, rfl⟩ := slice_of_recs ho1
        have HR3 : Hid (Rw z w (w.alloc (.cells #[.int .i64 0, .int .i64 0, .slice none 0 0] 113)) w3 (.slice ra1 (k + 1) rp1) (k + 1)) := HR2.out.step (below_new _ _) ho1 hg1
        clear ho1 hg1
        by_cases hc13 : rc = 13
        · go_wp2_with fail
          go_roundw
          case rel => exact ⟨k + 1, rl - 13, 0, _, ra1, rp1, rfl, rfl, by omega, by omega, .inl (by omega), HC1, HR3⟩
          case measure => simp [slen]; omega
        · go_wp2_with fail
          go_roundw
          case rel => exact ⟨k + 1, rl - 13, rc - 13, _, ra1, rp1, rfl, rfl, by omega, by omega, .inr (by rw [show off + 13 * (k + 1) = off + 13 * k + 13 by omega]), HC1, HR3⟩
          case measure => simp [slen]; omega
      · have hokf : okR (sh z (13 * k)) = false := by simpa using hok
        go_wp2_with fail
        refine (startsWith_some rl (sh z (13 * k)) b (off + 13 * k) rc wr h13 (by omega) hblr hZk (HBK.out wr HR.out.below)).mono ?_
        rintro e w1 ⟨rfl, hb1⟩
        rw [hokf]
        have HR1 : Hid (Rw z w (w.alloc (.cells #[.int .i64 0, .int .i64 0, .slice none 0 0] 113)) w1 (.slice ra k rcp) k) := HR.out.mono hb1
        clear hb1
        have HE : Hid (cnt z n = k) := HC.out.trans (rcn_end (by intro h; exact hok h.2))
        have hwu : IntKind.i64.wrap ((n : Int) - (rl : Int)) = 13 * (k : Int) := by rw [IntKind.wrap_i64]; omega
        have hrc2 : ∀ i x, (w.alloc (.cells #[.int .i64 0, .int .i64 0, .slice none 0 0] 113)).cell? ⟨w.heap.size, i, none⟩ = some x → w1.cell? ⟨w.heap.size, i, none⟩ = some x := fun i x hx => (World.cell?_of_block (w := (w.alloc (.cells #[.int .i64 0, .int .i64 0, .slice none 0 0] 113))) (a := ⟨w.heap.size, i, none⟩) HR1.out.res).trans hx
        have r0 := hrc2 0 (.int .i64 0) (by simp)
        have r1 := hrc2 1 (.int .i64 0) (by simp)
        have r2 := hrc2 2 (.slice none 0 0) (by simp)
        have rf : ∀ i, w1.frozen? ⟨w.heap.size, i, none⟩ = false := fun i => (World.frozen?_of_block (w := (w.alloc (.cells #[.int .i64 0, .int .i64 0, .slice none 0 0] 113))) (a := ⟨w.heap.size, i, none⟩) HR1.out.res).trans (by simp)
        clear hrc2
        go_wp2_with fail
        refine bodyPost_ret (v := .agg #[.int .i64 0, .int .i64 (13 * (k : Int)), .slice ra k rcp]) (by simp [results, Tryz.results69, go_sem, *]) rfl ?_
        rw [HE.out]
        refine ⟨ra, rcp, rfl, rw_end HR1.out ?_⟩
        repeat (first | exact Writes.refl _ _ _ | apply Writes.drew | refine Writes.setCell ?_ (by first | omega | (simp <;> omega)) (by first | omega | (simp <;> omega)) _)
    · go_wp2_with fail
      refine (startsWith_short rl a' rc wr (by omega)).mono ?_
      rintro e w1 ⟨rfl, hb1⟩
      have HR1 : Hid (Rw z w (w.alloc (.cells #[.int .i64 0, .int .i64 0, .slice none 0 0] 113)) w1 (.slice ra k rcp) k) := HR.out.mono hb1
      clear hb1
      have HE : Hid (cnt z n = k) := HC.out.trans (rcn_end (by intro h; omega))
      have hwu : IntKind.i64.wrap ((n : Int) - (rl : Int)) = 13 * (k : Int) := by rw [IntKind.wrap_i64]; omega
      have hrc2 : ∀ i x, (w.alloc (.cells #[.int .i64 0, .int .i64 0, .slice none 0 0] 113)).cell? ⟨w.heap.size, i, none⟩ = some x → w1.cell? ⟨w.heap.size, i, none⟩ = some x := fun i x hx => (World.cell?_of_block (w := (w.alloc (.cells #[.int .i64 0, .int .i64 0, .slice none 0 0] 113))) (a := ⟨w.heap.size, i, none⟩) HR1.out.res).trans hx
      have r0 := hrc2 0 (.int .i64 0) (by simp)
      have r1 := hrc2 1 (.int .i64 0) (by simp)
      have r2 := hrc2 2 (.slice none 0 0) (by simp)
      have rf : ∀ i, w1.frozen? ⟨w.heap.size, i, none⟩ = false := fun i => (World.frozen?_of_block (w := (w.alloc (.cells #[.int .i64 0, .int .i64 0, .slice none 0 0] 113))) (a := ⟨w.heap.size, i, none⟩) HR1.out.res).trans (by simp)
      clear hrc2
      go_wp2_with fail
      refine bodyPost_ret (v := .agg #[.int .i64 0, .int .i64 (13 * (k : Int)), .slice ra k rcp]) (by simp [results, Tryz.results69, go_sem, *]) rfl ?_
      rw [HE.out]
      refine ⟨ra, rcp, rfl, rw_end HR1.out ?_⟩
      repeat (first | exact Writes.refl _ _ _ | apply Writes.drew | refine Writes.setCell ?_ (by first | omega | (simp <;> omega)) (by first | omega | (simp <;> omega)) _)
theorem run_app_zero (w : World) (ty : TypeId) (ba : Option Addr) (n c : Nat) (xa : Option Addr) (xc : Nat) (h : n ≤ c) :
    (Builtin.append_ #[27, 27] ty #[.slice ba n c, .slice xa 0 xc]).run Tryz.prog w = .ok (.slice ba n c) w := by
  cases ba <;> cases xa <;> simp [Builtin.append_, go_sem, h, Builtin.firstCells, storeCells]
theorem grown_refl (w : World) (r : Option Nat) : w.grownBy w r := ⟨rfl, rfl, rfl, Nat.le_refl _, fun _ _ _ => rfl⟩
theorem zL_bl (z : Nat → Int) (n : Nat) : ∀ j u, (bl (zL z n))[j]? = some u → j < n ∧ u = .int .u8 (z j) := by
  intro j u h
  have hj : j < n := by
    have := (List.getElem?_eq_some_iff.1 h).1
    simpa [bl, zL] using this
  simp [bl, zL, hj] at h
  exact ⟨hj, h.symm⟩
theorem wp_appB {o : Oper} {a : Act} {K : Act → World → Prop} {Q : Exit → Act → World → Prop} (w : World) (s x : Operand)
    (ho : o.op = .call { callee := .builtin .append, args := #[s, x], argTypes := #[27, 27] })
    (base : Nat) (v : Value) (zs : List Int) (hs : a.eval s = v) (hown : w.ownsRow base 5 1 v zs.length (bl zs))
    (xa : Option Addr) (m c : Nat) (z : Nat → Int) (hx : a.eval x = .slice xa m c) (hb : BytesAt w xa m z) (h63 : zs.length + m ≤ 100000) (hbase : base ≤ w.heap.size)
    (h : ∀ v' w', w'.ownsRow base 5 1 v' (zs ++ zL z m).length (bl (zs ++ zL z m)) → w.grownBy w' v.ownBlock → K (a.put o.dst v') w') : o.wp Tryz.prog a w K Q := by
  by_cases hm : m = 0
  · subst hm
    obtain ⟨ba, cap, rfl⟩ : ∃ ba cap, v = .slice ba zs.length cap := by
      rcases hown.2 with ⟨rfl, h0⟩ | ⟨g, cap, cur, rfl, _⟩
      · exact ⟨none, 0, by rw [h0]⟩
      · exact ⟨_, cap, rfl⟩
    have hr := run_app_zero w o.type ba zs.length cap xa c (own_cap hown)
    unfold Oper.wp execOp
    simp only [ho, resolve, invoke, builtin, Sem.run_bind, Sem.run_pure, Result.andThen_ok, List.map_toArray, List.map_cons, List.map_nil, hs, hx, hr]
    refine h _ w ?_ (grown_refl _ _)
    have e : zs ++ zL z 0 = zs := by simp [zL]
    rw [e]
    exact hown
  · rcases hb with hb | ⟨b, off, rfl, hbl, hc⟩
    · exact absurd hb hm
    · obtain ⟨i0, hi, hz0, hz1, hz2⟩ := info_parts info5
      refine wp_append_own w s x 27 ho base 5 i0 _ 1 1 Tryz.underlying27 hi hz0 hz1 hz2 rfl (by decide) v zs.length (bl zs) hs hown ⟨b, off, none⟩ m c (bl (zL z m)) hx (by rw [bl_len, zL_len]; omega) (fun j u hj => ?_) (bl_one _) (by unfold maxLen; omega) (by omega) hbase fun v' w' h2 h3 _ => h v' w' ?_ h3
      · obtain ⟨h1, rfl⟩ := zL_bl z m j u hj
        rw [WideShapes.add_plain]
        exact hc j h1
      · rw [List.length_append, zL_len, bl_app]
        exact h2
theorem wpList_appB {ops : Array Oper} {rest : List Oper} {o : Oper} {a : Act} {Q : Exit → Act → World → Prop} (w : World) (hgd : o.guard = none) (s x : Operand)
    (ho : o.op = .call { callee := .builtin .append, args := #[s, x], argTypes := #[27, 27] })
    (base : Nat) (v : Value) (zs : List Int) (hs : a.eval s = v) (hown : w.ownsRow base 5 1 v zs.length (bl zs))
    (xa : Option Addr) (m c : Nat) (z : Nat → Int) (hx : a.eval x = .slice xa m c) (hb : BytesAt w xa m z) (h63 : zs.length + m ≤ 100000) (hbase : base ≤ w.heap.size)
    (h : ∀ v' w', w'.ownsRow base 5 1 v' (zs ++ zL z m).length (bl (zs ++ zL z m)) → w.grownBy w' v.ownBlock → wpList Tryz.prog ops Q rest (a.put o.dst v') w') : wpList Tryz.prog ops Q (o :: rest) a w :=
  wpList_plain hgd fun _ hK => wp_appB w s x ho base v zs hs hown xa m c z hx hb h63 hbase fun v' w' h2 h3 => hK _ _ (h v' w' h2 h3)
theorem step_appZ {ops : Array Oper} {o : Oper} {a : Act} {K : Act → World → Prop} {Q : Exit → Act → World → Prop} {E : Prop} (w : World) (hgd : o.guard = none) (s x : Operand)
    (ho : o.op = .call { callee := .builtin .append, args := #[s, x], argTypes := #[27, 27] })
    (base : Nat) (v : Value) (zs : List Int) (hs : a.eval s = v) (hown : w.ownsRow base 5 1 v zs.length (bl zs))
    (xa : Option Addr) (m c : Nat) (z : Nat → Int) (hx : a.eval x = .slice xa m c) (hb : BytesAt w xa m z) (h63 : zs.length + m ≤ 100000) (hbase : base ≤ w.heap.size)
    (h : ∀ v' w', w'.ownsRow base 5 1 v' (zs ++ zL z m).length (bl (zs ++ zL z m)) → w.grownBy w' v.ownBlock → K (a.put o.dst v') w') :
    if Region.wanted o (yielded ops a.tmps) = true then Oper.wp Tryz.prog o a w K Q else E := by
  have hw : Region.wanted o (yielded ops a.tmps) = true := by simp [Region.wanted, hgd]
  rw [if_pos hw]
  exact wp_appB w s x ho base v zs hs hown xa m c z hx hb h63 hbase h
/-- Pieces joined, the first k of them. -/
def jn (N : Nat → Nat) (Z : Nat → Nat → Int) : Nat → List Int
  | 0 => []
  | k + 1 => jn N Z k ++ zL (Z k) (N k)
theorem jn_len (N : Nat → Nat) (Z : Nat → Nat → Int) : ∀ k, (jn N Z k).length = sumL N k
  | 0 => rfl
  | k + 1 => by simp only [jn, List.length_append, jn_len N Z k, zL_len, sumL]
theorem sumL_mono (N : Nat → Nat) {k m : Nat} (h : k ≤ m) : sumL N k ≤ sumL N m := by
  induction m with
  | zero => have : k = 0 := by omega
            subst this; exact Nat.le_refl _
  | succ m ih =>
    by_cases e : k = m + 1
    · subst e; exact Nat.le_refl _
    · have := ih (by omega); simp only [sumL]; omega
set_option maxHeartbeats 2000000 in
theorem joined_any (m : Nat) (A : Nat → Option Addr) (N C : Nat → Nat) (Z : Nat → Nat → Int) (pb po pc : Nat) (w : World) (hs : sumL N m ≤ 90000) (hpb : pb < w.heap.size)
    (hp : ∀ i, i < m → w.cell? ⟨pb, po + i, none⟩ = some (.slice (A i) (N i) (C i)) ∧ BytesAt w (A i) (N i) (Z i)) (hm : m ≤ 3) :
    Calls Tryz.prog 67 #[.slice (some ⟨pb, po, none⟩) m pc] w fun e w' => ∃ v, e = .returned v ∧ Below w.heap.size w w' ∧ w'.ownsRow w.heap.size 5 1 v (jn N Z m).length (bl (jn N Z m)) := by
  have HP : Hid (∀ i, i < m → w.cell? ⟨pb, po + i, none⟩ = some (.slice (A i) (N i) (C i)) ∧ BytesAt w (A i) (N i) (Z i)) := hp
  clear hp
  go_enter Tryz.func67, Tryz.ntmps67
  go_wp2_with fail
  go_loopw [3, 5, 8] (fun v _ i wr => ∃ k : Nat, k ≤ m ∧ i = .int .i64 k ∧ Hid (Below w.heap.size w wr) ∧ Hid (wr.ownsRow w.heap.size 5 1 v (jn N Z k).length (bl (jn N Z k)))) (fun _ _ i _ => m - (intOf i).toNat)
  case atStart => exact ⟨0, by omega, rfl, Below.refl _ _, World.ownsRow_nil _ _ _ _⟩
  case round =>
    obtain ⟨k, hk, rfl, HB, HO⟩ := hrel
    by_cases hlt : k < m
    · have hlt' : (k : Int) < (m : Int) := by omega
      have hk1 : (0 : Int) ≤ (k : Int) := by omega
      have hc := cell_below (HP.out k hlt).1 HB.out
      have HBA : Hid (BytesAt wr (A k) (N k) (Z k)) := (HP.out k hlt).2.below HB.out
      have HLE : Hid ((jn N Z k).length + N k ≤ 100000) := by
        have h1 := jn_len N Z k
        have h2 := sumL_mono N (k := k + 1) (m := m) (by omega)
        simp only [sumL] at h2
        show (jn N Z k).length + N k ≤ 100000
        omega
      go_wp2_with (at_builtin; refine wpList_appB _ rfl (.tmp 12) (.tmp 13) rfl w.heap.size _ (jn N Z k) rfl HO.out (A k) (N k) (C k) (Z k) rfl HBA.out HLE.out HB.out.size ?_)
      intro v1 w1 ho1 hg1
      have HO1 : Hid (w1.ownsRow w.heap.size 5 1 v1 (jn N Z (k + 1)).length (bl (jn N Z (k + 1)))) := by
        show w1.ownsRow w.heap.size 5 1 v1 (jn N Z k ++ zL (Z k) (N k)).length (bl (jn N Z k ++ zL (Z k) (N k)))
        rw [List.length_append]
        exact ho1
      have HB1 : Hid (Below w.heap.size w w1) := HB.out.grown hg1 HB.out.size (fun q hq => (HO.out.lt q hq).1)
      clear ho1 hg1
      go_wp2_with fail
      go_roundw
      case rel => exact ⟨k + 1, hlt, by go_num, HB1, HO1⟩
      case measure => simp [intOf]; omega
    · have hkn : k = m := by omega
      subst hkn
      go_wp2_with fail
      go_ret
      exact ⟨_, rfl, HB.out, HO.out⟩
/-- A row that grows, over a box, and fresh rows of bytes that wait to be appended. -/
structure L3 (w wB W : World) (v : Value) (xs : List Int) (n : Nat) (P : List (Nat × List Int)) : Prop where
  below : Below (w.heap.size + 1) wB W
  hsz : w.heap.size + 1 ≤ W.heap.size
  own : W.ownsRow (w.heap.size + 1) 5 1 v n (bl xs)
  pend : ∀ p ∈ P, p.1 < W.heap.size ∧ v.ownBlock ≠ some p.1 ∧ ∀ j u, (bl p.2)[j]? = some u → W.cell? ((⟨p.1, 0, none⟩ : Addr).add j) = some u
theorem L3.drew {w wB W : World} {v : Value} {xs : List Int} {n : Nat} {P : List (Nat × List Int)} (h : L3 w wB W v xs n P) : L3 w wB W.drew v xs n P := ⟨h.below.drew, h.hsz, h.own, h.pend⟩
theorem L3.call {w wB W W' : World} {v : Value} {xs ys : List Int} {n g cq : Nat} {P : List (Nat × List Int)} (h : L3 w wB W v xs n P) (hb : Below W.heap.size W W') (hq : W'.ownsRow W.heap.size 5 1 (.slice (some ⟨g, 0, none⟩) ys.length cq) ys.length (bl ys)) (hg : W.heap.size ≤ g ∧ g < W'.heap.size) : L3 w wB W' v xs n ((g, ys) :: P) := by
  refine ⟨h.below.trans (hb.mono h.hsz), Nat.le_trans h.hsz hb.size, rowB_below h.own hb, fun p hp => ?_⟩
  rcases List.mem_cons.1 hp with rfl | hp
  · exact ⟨hg.2, fun e => by have := (h.own.lt _ e).2; omega, newsB hq⟩
  · obtain ⟨h1, h2, h3⟩ := h.pend p hp
    refine ⟨Nat.lt_of_lt_of_le h1 hb.size, h2, fun j u hj => ?_⟩
    have h4 := h3 j u hj
    rw [WideShapes.add_plain] at h4 ⊢
    exact cell_below h4 hb
theorem L3.app {w wB W W' : World} {v : Value} {xs ys : List Int} {n g' cap' m : Nat} {P : List (Nat × List Int)} (h : L3 w wB W v xs n P) (ho : W'.ownsRow (w.heap.size + 1) 5 1 (.slice (some ⟨g', 0, none⟩) (n + m) cap') (n + m) (bl xs ++ bl ys)) (hg : W.grownBy W' v.ownBlock) (hat : v.ownBlock = some g' ∨ g' = W.heap.size) :
    L3 w wB W' (.slice (some ⟨g', 0, none⟩) (n + m) cap') (xs ++ ys) (n + m) P := by
  refine ⟨h.below.grown hg h.hsz fun q hq => (h.own.lt q hq).1, Nat.le_trans h.hsz hg.size, by rw [bl_app]; exact ho, fun p hp => ?_⟩
  obtain ⟨h1, h2, h3⟩ := h.pend p hp
  have hblk := hg.block p.1 h1 (fun e => h2 e.symm)
  refine ⟨Nat.lt_of_lt_of_le h1 hg.size, ?_, fun j u hj => ?_⟩
  · rcases hat with e | e
    · intro e2
      exact h2 (e.trans e2)
    · intro e2
      simp only [Value.ownBlock, Option.some.injEq] at e2
      omega
  · have h4 := h3 j u hj
    rw [WideShapes.add_plain] at h4 ⊢
    exact (World.cell?_of_block (w := W) (a := ⟨p.1, _, none⟩) hblk).trans h4
theorem L3.stepApp {ops : Array Oper} {o : Oper} {a : Act} {K : Act → World → Prop} {Q : Exit → Act → World → Prop} {E : Prop} {w wB W : World} {v : Value} {xs : List Int} {n : Nat} {P : List (Nat × List Int)} (h : L3 w wB W v xs n P) (hgd : o.guard = none) (s x : Operand)
    (ho : o.op = .call { callee := .builtin .append, args := #[s, x], argTypes := #[27, 27] }) (hs : a.eval s = v) (g c : Nat) (ys : List Int) (hx : a.eval x = .slice (some ⟨g, 0, none⟩) 2 c) (hl : ys.length = 2) (hp : (g, ys) ∈ P) (hn : n ≤ 20)
    (hk : ∀ g' cap' W', L3 w wB W' (.slice (some ⟨g', 0, none⟩) (n + 2) cap') (xs ++ ys) (n + 2) P → K (a.put o.dst (.slice (some ⟨g', 0, none⟩) (n + 2) cap')) W') :
    if Region.wanted o (yielded ops a.tmps) = true then Oper.wp Tryz.prog o a W K Q else E := by
  obtain ⟨i0, hi, hz0, hz1, hz2⟩ := info_parts info5
  refine step_append_lies (P := Tryz.prog) W hgd s x 27 ho (w.heap.size + 1) 5 i0 (.int .u8 0) 1 1 Tryz.underlying27 hi hz0 hz1 hz2 rfl (by decide) v n (bl xs) hs h.own ⟨g, 0, none⟩ 2 c (bl ys) hx (by rw [bl_len, hl]) (h.pend _ hp).2.2 (bl_one _) (by decide) (by unfold maxLen; omega) (by omega) h.hsz _ rfl ?_
  intro g' cap' W' h1 h2 h3 h4
  exact hk g' cap' W' (h.app h1 h2 h3)
theorem L3.cell {w wB W : World} {v x : Value} {xs : List Int} {n i : Nat} {P : List (Nat × List Int)} (h : L3 w wB W v xs n P) (hx : wB.cell? ⟨w.heap.size, i, none⟩ = some x) : W.cell? ⟨w.heap.size, i, none⟩ = some x :=
  (h.below.cell (p := ⟨w.heap.size, i, none⟩) (by show w.heap.size < w.heap.size + 1; omega)).trans hx
theorem two_u8 (x y : Int) : ∀ u ∈ [Value.int .u8 x, Value.int .u8 y], u.oneCell' = true := by intro u hu; simp at hu; rcases hu with rfl | rfl <;> rfl
theorem cell_two_newB (w : World) (a b : Value) (t : TypeId) : ∀ j u, [a, b][j]? = some u → (w.alloc (.cells #[a, b] t)).cell? ((⟨w.heap.size, 0, none⟩ : Addr).add j) = some u := by
  intro j u hj
  rw [WideShapes.add_plain]
  rcases j with _ | _ | j
  · simp at hj; subst hj; simp
  · simp at hj; subst hj; simp
  · simp at hj
end Go.Proofs.YtldnfiadafmomaaGreat
