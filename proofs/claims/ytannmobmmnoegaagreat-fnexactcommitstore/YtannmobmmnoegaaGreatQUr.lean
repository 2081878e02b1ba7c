/- impl.UnpackRecs. -/
import Derived.Test.YtannmobmmnoegaaGreatQUp
import Derived.Test.YtannmobmmnoegaaGreatQPr
namespace Go.Proofs.YtannmobmmnoegaaGreat
open Go.RowKit Go.Deep
set_option linter.unusedVariables false
set_option maxRecDepth 20000

theorem and1_all : ∀ x : Fin 256, bits .and .u64 (x.val : Int) 1 = (x.val : Int) % 2 := by decide +kernel
theorem and2_all : ∀ x : Fin 256, bits .and .u64 (x.val : Int) 2 = (x.val : Int) / 2 % 2 * 2 := by decide +kernel
theorem and1 {x : Int} (h0 : 0 ≤ x) (h1 : x ≤ 255) : bits .and .u64 x 1 = x % 2 := by
  have h := and1_all ⟨x.toNat, by omega⟩
  have e : ((x.toNat : Nat) : Int) = x := by omega
  simpa [e] using h
theorem andTwo {x : Int} (h0 : 0 ≤ x) (h1 : x ≤ 255) : bits .and .u64 x 2 = x / 2 % 2 * 2 := by
  have h := and2_all ⟨x.toNat, by omega⟩
  have e : ((x.toNat : Nat) : Int) = x := by omega
  simpa [e] using h
def hdB (z : Nat → Int) : Bool := z 4 % 2 == 1
def hsB (z : Nat → Int) : Bool := z 4 / 2 % 2 == 1
theorem hdB_eq {z : Nat → Int} (h0 : 0 ≤ z 4) (h1 : z 4 ≤ 255) : (bits .and .u64 (z 4) 1 != 0) = hdB z := by
  rw [and1 h0 h1, hdB]
  have : z 4 % 2 = 0 ∨ z 4 % 2 = 1 := by omega
  rcases this with h | h <;> rw [h] <;> rfl
theorem hsB_eq {z : Nat → Int} (h0 : 0 ≤ z 4) (h1 : z 4 ≤ 255) : (bits .and .u64 (z 4) 2 != 0) = hsB z := by
  rw [andTwo h0 h1, hsB]
  have : z 4 / 2 % 2 = 0 ∨ z 4 / 2 % 2 = 1 := by omega
  rcases this with h | h <;> rw [h] <;> rfl
theorem ba_ad {w : World} {b off n : Nat} {z : Nat → Int} (h : BA w b off n z) (o : Obj) : BA (w.alloc o).drew b off n z := h.alloc o
set_option maxHeartbeats 4000000 in
theorem readRec_some (n : Nat) (z : Nat → Int) (b off cap : Nat) (w : World) (hn : 13 ≤ n) (hcap : n ≤ cap) (hbl : b < w.heap.size) (hz : Byt 13 z) (hc : BA w b off 13 z) :
    Calls Tryz.prog 208 #[.slice (some ⟨b, off, none⟩) n cap] w fun e w' =>
      e = .returned (.agg #[.int .i64 (num z 0 1), .int .i64 (num z 1 2), .int .i64 (num z 3 1), .bool (hdB z), .int .i64 (num z 5 2), .bool (hsB z), .int .i64 (num z 7 2), .int .i64 (num z 9 2)]) ∧ Below w.heap.size w w' := by
  have HZ : Hid (Byt 13 z) := hz
  have hz4 := hz 4 (by decide)
  have c1 : ¬ cap = 1 := by omega
  have c3 : ¬ cap = 3 := by omega
  have c5 : ¬ cap = 5 := by omega
  have c7 : ¬ cap = 7 := by omega
  have c9 : ¬ cap = 9 := by omega
  have d1 : (1 : Int) ≤ (cap : Int) := by omega
  have d3 : (3 : Int) ≤ (cap : Int) := by omega
  have d4 : (4 : Int) ≤ (cap : Int) := by omega
  have d7 : (7 : Int) ≤ (cap : Int) := by omega
  have d9 : (9 : Int) ≤ (cap : Int) := by omega
  have d11 : (11 : Int) ≤ (cap : Int) := by omega
  have dn : (4 : Int) < (n : Int) := by omega
  have hbn : b ≠ w.heap.size := by omega
  have hw4 : IntKind.u64.wrap (z 4) = z 4 := by rw [IntKind.wrap_u64]; omega
  have HHD := hdB_eq hz4.1 hz4.2
  have HHS := hsB_eq hz4.1 hz4.2
  have hA : BA (w.alloc (.cells #[.int .i64 0, .int .i64 0, .int .i64 0, .bool false, .int .i64 0, .bool false, .int .i64 0, .int .i64 0] 67)) b off 13 z := hc.alloc _
  have h4 := hA 4 (by decide)
  have hA0 : BA (w.alloc (.cells #[.int .i64 0, .int .i64 0, .int .i64 0, .bool false, .int .i64 0, .bool false, .int .i64 0, .int .i64 0] 67)).drew b off 13 z := hA
  have hcw : BA w b off 13 z := hc
  clear hz hc hz4
  go_enter Tryz.func208, Tryz.ntmps208
  go_wp2_with fail
  go_region_held3 (fun w' => BA w' b off 13 z) (first | with_reducible assumption | with_reducible exact ba_ad hcw _ | go_keep)
    (first | (go_at_call 222; refine (readNumG z b off 13 _ (by with_reducible assumption) HZ.out (by decide) (by omega) (by omega)).mono ?_; rintro e w' ⟨rfl, rfl⟩; simp only [Nat.add_sub_cancel_left, Nat.sub_self]))
  all_goals
    go_wp2_with fail
    refine bodyPost_ret (v := .agg #[.int .i64 (num z 0 1), .int .i64 (num z 1 2), .int .i64 (num z 3 1), .bool (hdB z), .int .i64 (num z 5 2), .bool (hsB z), .int .i64 (num z 7 2), .int .i64 (num z 9 2)]) (by simp [results, Tryz.results208, go_sem]) rfl ⟨rfl, ?_⟩
    repeat (first | exact (below_new _ _).drew | exact below_new _ _ | apply Below.drew | refine Below.setCell ?_ (by first | omega | (simp <;> omega)) _)
/-- The fault and the bytes of the record that 13 bytes tell. -/
def rzF (z : Nat → Int) : Int := rf (num z 0 1) (num z 1 2) (num z 3 1) (hdB z) (num z 5 2) (hsB z) (num z 7 2) (num z 9 2)
def rzB (z : Nat → Int) : List Int := rb (num z 0 1) (num z 1 2) (num z 3 1) (hdB z) (num z 5 2) (hsB z) (num z 7 2) (num z 9 2)
/-- Do the 13 bytes tell a record whose bytes they are? -/
def okR (z : Nat → Int) : Bool := decide (rzF z = 0) && decide (rzB z = zL z 13)
theorem rzB_len (z : Nat → Int) : (rzB z).length = 13 := rb_len _ _ _ _ _ _ _ _
set_option maxHeartbeats 4000000 in
theorem startsWith_some (n : Nat) (z : Nat → Int) (b off cap : Nat) (w : World) (hn : 13 ≤ n) (hcap : n ≤ cap) (hbl : b < w.heap.size) (hz : Byt 13 z) (hc : BA w b off 13 z) :
    Calls Tryz.prog 207 #[.slice (some ⟨b, off, none⟩) n cap] w fun e w' => e = .returned (.bool (okR z)) ∧ Below w.heap.size w w' := by
  have HZ : Hid (Byt 13 z) := hz
  have HC : Hid (BA w b off 13 z) := hc
  have hn13 : ¬ ((n : Int) < 13) := by omega
  have d13 : (13 : Int) ≤ (cap : Int) := by omega
  clear hz hc
  go_enter Tryz.func207, Tryz.ntmps207
  go_wp2_with fail
  refine (readRec_some n z b off cap w hn hcap hbl HZ.out HC.out).mono ?_
  rintro e w1 ⟨rfl, hb1⟩
  go_wp2_with fail
  refine (implPr_any (num z 0 1) (num z 1 2) (num z 3 1) (hdB z) (num z 5 2) (hsB z) (num z 7 2) (num z 9 2) w1).mono ?_
  rintro e w2 ⟨a3, cap3, rfl, hb2, ho3, hcp3⟩
  have HB2 : Hid (Below w.heap.size w w2) := below_then hb1 hb2
  have hCd : BA w2 b off 13 z := HC.out.below HB2.out
  clear hb1 hb2
  by_cases hp : rzF z = 0
  · have hp' : rf (num z 0 1) (num z 1 2) (num z 3 1) (hdB z) (num z 5 2) (hsB z) (num z 7 2) (num z 9 2) = 0 := hp
    have HOK : Hid (okR z = decide (rzB z = zL z 13)) := by show okR z = _; simp [okR, hp]
    rw [hp'] at ho3 hcp3 ⊢
    simp only [if_true] at ho3 hcp3 ⊢
    rw [rb_len] at ho3 hcp3 ⊢
    rcases ho3.2 with h | ⟨g3, o3, rfl, h31, h32, h33, h34⟩
    · cases h
    have hE : ∀ W : World, (∀ i, i < 13 → W.cell? ⟨g3, o3 + i, none⟩ = some (.int .u8 (zOf (rzB z) i))) → BA W b off 13 z → Calls Tryz.prog 221 #[.slice (some ⟨g3, o3, none⟩) 13 cap3, .slice (some ⟨b, off, none⟩) 13 cap] W fun e w' => e = .returned (.bool (decide (rzB z = zL z 13))) ∧ w' = W := fun W h1 h2 => by
      have hE := equal_some (rzB z) (zL z 13) g3 o3 cap3 b off cap W (fun x hx => rb_byt _ _ _ _ _ _ _ _ x hx) (zL_byt HZ.out) (fun i hi => by
        rw [rzB_len] at hi
        exact h1 i hi) (fun i hi => by
        rw [zL_len] at hi
        rw [zL_get _ _ _ hi]
        exact h2 i hi)
      rw [rzB_len, zL_len] at hE
      exact hE
    have HE : Hid _ := hE (w2.alloc (.cells #[.int .i64 0, .slice (some ⟨g3, o3, none⟩) 13 cap3] 211)).drew (fun i hi => cell_alloc (h33 i hi) (.cells #[.int .i64 0, .slice (some ⟨g3, o3, none⟩) 13 cap3] 211)) (hCd.alloc _)
    clear hE h31 h32 h33 h34 ho3 hCd hp hp'
    have HBX := Box2.new w2 (.int .i64 0) (.slice (some ⟨g3, o3, none⟩) 13 cap3) 211
    obtain ⟨x0, x1⟩ := HBX
    go_wp2_with fail
    go_region_held3 (fun w' => w'.cell? ⟨w2.heap.size, 0, none⟩ = some (.int .i64 0) ∧ w'.cell? ⟨w2.heap.size, 1, none⟩ = some (.slice (some ⟨g3, o3, none⟩) 13 cap3)) (go_keep)
      (first | (go_at_call 221; refine Calls.mono HE.out ?_; rintro e w' ⟨rfl, rfl⟩))
    all_goals
      go_wp2_with fail
      go_ret
      exact ⟨ret_bool HOK.out.symm, by repeat (first | exact HB2.out.alloc HB2.out.size _ | apply Below.drew)⟩
  · have hp' : ¬ rf (num z 0 1) (num z 1 2) (num z 3 1) (hdB z) (num z 5 2) (hsB z) (num z 7 2) (num z 9 2) = 0 := hp
    have hp2 : (rf (num z 0 1) (num z 1 2) (num z 3 1) (hdB z) (num z 5 2) (hsB z) (num z 7 2) (num z 9 2) == 0) = false := by simpa using hp'
    have HOK : Hid (okR z = false) := by show okR z = _; simp [okR, hp]
    simp only [if_neg hp'] at ho3 hcp3 ⊢
    generalize rf (num z 0 1) (num z 1 2) (num z 3 1) (hdB z) (num z 5 2) (hsB z) (num z 7 2) (num z 9 2) = c at *
    clear hp hp' ho3 hCd
    simp only [List.length_nil] at hcp3 ⊢
    have HBX := Box2.new w2 (.int .i64 c) (.slice a3 0 cap3) 211
    have HBY : Below w.heap.size w (w2.alloc (.cells #[.int .i64 c, .slice a3 0 cap3] 211)) := HB2.out.alloc HB2.out.size _
    go_wp2_with fail
    generalize w2.alloc (.cells #[.int .i64 c, .slice a3 0 cap3] 211) = wx at *
    obtain ⟨x0, x1⟩ := HBX
    have HBZ : Hid (Below w.heap.size w wx) := HBY
    clear HBY
    go_quiet (fail)
    go_wp2_with fail
    go_ret
    exact ⟨ret_bool HOK.out.symm, by repeat (first | exact HBZ.out | apply Below.drew | refine below_drewN ?_ _)⟩
theorem startsWith_short (n : Nat) (a : Option Addr) (cap : Nat) (w : World) (hn : n < 13) :
    Calls Tryz.prog 207 #[.slice a n cap] w fun e w' => e = .returned (.bool false) ∧ Below w.heap.size w w' := by
  have hn13 : (n : Int) < 13 := by omega
  go_enter Tryz.func207, Tryz.ntmps207
  go_wp2_with fail
  go_ret
  exact ⟨rfl, Below.refl _ _⟩
def sh (z : Nat → Int) (k i : Nat) : Int := z (k + i)
/-- The eight cells of the record that 13 bytes tell. -/
def rvl (z : Nat → Int) : List Value := [.int .i64 (num z 0 1), .int .i64 (num z 1 2), .int .i64 (num z 3 1), .bool (hdB z), .int .i64 (num z 5 2), .bool (hsB z), .int .i64 (num z 7 2), .int .i64 (num z 9 2)]
/-- The cells of the first k records. -/
def rvs (z : Nat → Int) : Nat → List Value
  | 0 => []
  | k + 1 => rvs z k ++ rvl (sh z (13 * k))
theorem rvl_one (z : Nat → Int) : ∀ u ∈ rvl z, u.oneCell' = true := by
  intro u hu
  simp only [rvl, List.mem_cons, List.mem_nil_iff, or_false] at hu
  rcases hu with rfl | rfl | rfl | rfl | rfl | rfl | rfl | rfl <;> rfl
/-- How many records stand at the beginning of n bytes, counted on from the k-th. -/
def rcn (z : Nat → Int) (n : Nat) : Nat → Nat → Nat
  | 0, k => k
  | f + 1, k => if 13 * (k + 1) ≤ n ∧ okR (sh z (13 * k)) = true then rcn z n f (k + 1) else k
def cnt (z : Nat → Int) (n : Nat) : Nat := rcn z n n 0
theorem rcn_at {z : Nat → Int} {n k : Nat} (h : 13 * (k + 1) ≤ n) (ho : okR (sh z (13 * k)) = true) : rcn z n (n - k) k = rcn z n (n - (k + 1)) (k + 1) := by
  have e : n - k = (n - (k + 1)) + 1 := by omega
  rw [e, rcn, if_pos ⟨h, ho⟩]
theorem rcn_end {z : Nat → Int} {n k : Nat} (h : ¬ (13 * (k + 1) ≤ n ∧ okR (sh z (13 * k)) = true)) : rcn z n (n - k) k = k := by
  cases hf : n - k with
  | zero => rfl
  | succ f => rw [rcn, if_neg h]
def slen : Value → Nat
  | .slice _ n _ => n
  | _ => 0
theorem info45 : (Tryz.prog.info? 67).map (fun i => (i.zero, i.size, i.bytes)) = some (some (.agg #[.int .i64 0, .int .i64 0, .int .i64 0, .bool false, .int .i64 0, .bool false, .int .i64 0, .int .i64 0]), 8, 64) := by kernel_rfl
theorem cell_eight_new (w : World) (z : Nat → Int) (t : TypeId) : ∀ j u, (rvl z)[j]? = some u → (w.alloc (.cells (rvl z).toArray t)).cell? ((⟨w.heap.size, 0, none⟩ : Addr).add j) = some u := by
  intro j u hj
  rw [WideShapes.add_plain]
  have hlt : j < 8 := by
    have := (List.getElem?_eq_some_iff.1 hj).1
    simpa [rvl] using this
  rcases (by omega : j = 0 ∨ j = 1 ∨ j = 2 ∨ j = 3 ∨ j = 4 ∨ j = 5 ∨ j = 6 ∨ j = 7) with rfl | rfl | rfl | rfl | rfl | rfl | rfl | rfl <;> (simp [rvl] at hj; subst hj; simp [rvl])
theorem slice_of_recs {w : World} {base n : Nat} {v : Value} {xs : List Value} (h : w.ownsRow base 67 8 v n xs) : ∃ a cap, v = .slice a n cap := by
  rcases h.2 with ⟨rfl, h0⟩ | ⟨g, cap, cur, rfl, _⟩
  · exact ⟨none, 0, by rw [h0]⟩
  · exact ⟨_, cap, rfl⟩
/-- Where a loop over records stands: what is older is as it was, the answer's box too, and a row of k records. -/
structure Rw (z : Nat → Int) (w W0 wr : World) (v : Value) (k : Nat) : Prop where
  below : Below w.heap.size w wr
  hsz : w.heap.size + 1 ≤ wr.heap.size
  res : wr.heap[w.heap.size]? = W0.heap[w.heap.size]?
  own : wr.ownsRow (w.heap.size + 1) 67 8 v k (rvs z k)
theorem rowR_below {W wq : World} {B n : Nat} {v : Value} {xs : List Value} (h : W.ownsRow B 67 8 v n xs) (hb : Below W.heap.size W wq) : wq.ownsRow B 67 8 v n xs := by
  refine ⟨h.1, ?_⟩
  rcases h.2 with h2 | ⟨g, cap, cur, hv, hbg, hg, r⟩
  · exact .inl h2
  · have hlt : g < W.heap.size := by obtain ⟨hlt, _⟩ := Array.getElem?_eq_some_iff.1 hg; exact hlt
    exact .inr ⟨g, cap, cur, hv, hbg, (hb.block g hlt).trans hg, r⟩
theorem Rw.mono {z : Nat → Int} {w W0 wr wq : World} {v : Value} {k : Nat} (h : Rw z w W0 wr v k) (hb : Below wr.heap.size wr wq) : Rw z w W0 wq v k :=
  ⟨below_then h.below hb, Nat.le_trans h.hsz hb.size, (hb.block _ (by have := h.hsz; omega)).trans h.res, rowR_below h.own hb⟩
theorem Rw.step {z : Nat → Int} {w W0 wr Wd w1 : World} {v v' : Value} {k : Nat} (h : Rw z w W0 wr v k) (hW : Below wr.heap.size wr Wd) (ho : w1.ownsRow (w.heap.size + 1) 67 8 v' (k + 1) (rvs z k ++ rvl (sh z (13 * k)))) (hg : Wd.grownBy w1 v.ownBlock) : Rw z w W0 w1 v' (k + 1) := by
  have hsz := h.hsz
  have hs2 := hW.size
  have hs3 := hg.size
  refine ⟨(h.below.trans (hW.mono (by omega))).grown hg (by omega) (fun q hq => by have := (h.own.lt q hq).1; omega), by omega, ?_, ho⟩
  exact (hg.block _ (by omega) (fun e => by have := (h.own.lt _ e.symm).1; omega)).trans ((hW.block _ (by omega)).trans h.res)
theorem rw_end {z : Nat → Int} {w W0 wr w7 : World} {ra : Option Addr} {rcp k : Nat} (h : Rw z w W0 wr (.slice ra k rcp) k) (hw : Writes w.heap.size (w.heap.size + 1) wr w7) :
    Below w.heap.size w w7 ∧ w7.ownsRow (w.heap.size + 1) 67 8 (.slice ra k rcp) k (rvs z k) := by
  refine ⟨Writes.below h.below hw (Nat.le_refl _), h.own.1, ?_⟩
  rcases h.own.2 with h2 | ⟨g, cap, cur, hv, hbg, hg, r⟩
  · exact .inl h2
  · have hlt : g < wr.heap.size := by obtain ⟨hlt, _⟩ := Array.getElem?_eq_some_iff.1 hg; exact hlt
    exact .inr ⟨g, cap, cur, hv, hbg, (hw.block g hlt (.inr (by omega))).trans hg, r⟩
/-- An answer that is records, or a code. -/
def RcR (c used : Int) (m : Nat) (z : Nat → Int) (w : World) (e : Ending) (w' : World) : Prop :=
  ∃ ra rcp, e = .returned (.agg #[.int .i64 c, .int .i64 used, .slice ra m rcp]) ∧ Below w.heap.size w w' ∧ w'.ownsRow (w.heap.size + 1) 67 8 (.slice ra m rcp) m (rvs z m)
set_option maxHeartbeats 4000000 in
theorem implUr_any (n : Nat) (z : Nat → Int) (a : Option Addr) (b off cap : Nat) (w : World) (hcap : n ≤ cap) (hn : n ≤ 4000) (hz : Byt n z) (ha : n = 0 ∨ a = some ⟨b, off, none⟩ ∧ b < w.heap.size ∧ BA w b off n z) :
    Calls Tryz.prog 178 #[.slice a n cap] w (RcR 0 (13 * (cnt z n : Int)) (cnt z n) z w) := by
  obtain ⟨i0, hi, hz0, hz1, hz2⟩ := info_parts info45
  have HI : Hid (Tryz.prog.info? 67 = some i0 ∧ i0.zero = some (.agg #[.int .i64 0, .int .i64 0, .int .i64 0, .bool false, .int .i64 0, .bool false, .int .i64 0, .int .i64 0]) ∧ i0.size = 8 ∧ i0.bytes = 64) := ⟨hi, hz0, hz1, hz2⟩
  have HZ : Hid (Byt n z) := hz
  have HA : Hid (n = 0 ∨ a = some ⟨b, off, none⟩ ∧ b < w.heap.size ∧ BA w b off n z) := ha
  have hn4 : ¬ (4000 < (n : Int)) := by omega
  have hn5 : ¬ (4000 < n) := by omega
  clear hi hz0 hz1 hz2 hz ha
  go_enter Tryz.func178, Tryz.ntmps178
  go_wp2_with fail
  go_loopw [3, 4] (fun r s wr => ∃ k rl rc : Nat, ∃ a' ra : Option Addr, ∃ rcp : Nat, s = .slice a' rl rc ∧ r = .slice ra k rcp ∧ rl + 13 * k = n ∧ rc + 13 * k = cap ∧ (rl = 0 ∨ a' = some ⟨b, off + 13 * k, none⟩) ∧ Hid (cnt z n = rcn z n (n - k) k) ∧ Hid (Rw z w (w.alloc (.cells #[.int .i64 0, .int .i64 0, .slice none 0 0] 163)) wr (.slice ra k rcp) k)) (fun _ s _ => slen s)
  case atStart => exact ⟨0, n, cap, a, none, 0, rfl, rfl, by omega, by omega, by rcases HA.out with h | h; exact .inl h; exact .inr h.1, rfl, ⟨below_new _ _, by rw [World.size_alloc]; omega, rfl, World.ownsRow_nil _ _ _ _⟩⟩
  case round =>
    obtain ⟨k, rl, rc, a', ra, rcp, rfl, rfl, hrl, hrc, haa, HC, HR⟩ := hrel
    by_cases h13 : 13 ≤ rl
    · rcases haa with h | rfl
      · omega
      rcases HA.out with h | ⟨-, hbl, hba⟩
      · omega
      have hZk : Byt 13 (sh z (13 * k)) := fun i hi => HZ.out _ (by omega)
      have hBk : ∀ W, Below w.heap.size w W → BA W b (off + 13 * k) 13 (sh z (13 * k)) := fun W hW i hi => by
        have := hba.below hW (13 * k + i) (by omega)
        rwa [← Nat.add_assoc] at this
      have hblr : b < wr.heap.size := by have := HR.out.hsz; omega
      have HBK : Hid (∀ W, Below w.heap.size w W → BA W b (off + 13 * k) 13 (sh z (13 * k))) := hBk
      have c13 : ¬ rc = 13 ∨ rc = 13 := by omega
      have d13 : (13 : Int) ≤ (rl : Int) := by omega
      have d14 : (13 : Int) ≤ (rc : Int) := by omega
      clear hba hBk
      by_cases hok : okR (sh z (13 * k)) = true
      · have HC1 : Hid (cnt z n = rcn z n (n - (k + 1)) (k + 1)) := HC.out.trans (rcn_at (by omega) hok)
        go_wp2_with fail
        refine (startsWith_some rl (sh z (13 * k)) b (off + 13 * k) rc wr h13 (by omega) hblr hZk (HBK.out wr HR.out.below)).mono ?_
        rintro e w1 ⟨rfl, hb1⟩
        rw [hok]
        have HR1 : Hid (Rw z w (w.alloc (.cells #[.int .i64 0, .int .i64 0, .slice none 0 0] 163)) w1 (.slice ra k rcp) k) := HR.out.mono hb1
        have hbl1 : b < w1.heap.size := by have := hb1.size; omega
        clear hb1
        go_wp2_with fail
        refine (readRec_some rl (sh z (13 * k)) b (off + 13 * k) rc w1 h13 (by omega) hbl1 hZk (HBK.out w1 HR1.out.below)).mono ?_
        rintro e w2 ⟨rfl, hb2⟩
        have HR2 : Hid (Rw z w (w.alloc (.cells #[.int .i64 0, .int .i64 0, .slice none 0 0] 163)) w2 (.slice ra k rcp) k) := HR1.out.mono hb2
        have HS2 : Hid (w.heap.size + 1 ≤ (w2.alloc (.cells (rvl (sh z (13 * k))).toArray 67)).heap.size) := by show _ ≤ (w2.alloc _).heap.size; rw [World.size_alloc]; have := HR2.out.hsz; omega
        clear hb2
        go_wp2_with (at_builtin; refine wpList_append_own _ rfl (.tmp 12) (.tmp 15) 78 rfl (w.heap.size + 1) 67 i0 (.agg #[.int .i64 0, .int .i64 0, .int .i64 0, .bool false, .int .i64 0, .bool false, .int .i64 0, .int .i64 0]) 8 64 Tryz.underlying78 HI.out.1 HI.out.2.1 HI.out.2.2.1 HI.out.2.2.2 rfl (by decide) (.slice ra k rcp) k (rvs z k) rfl (HR2.out.own.alloc _) ⟨w2.heap.size, 0, none⟩ 1 1 (rvl (sh z (13 * k))) rfl rfl (cell_eight_new _ _ _) (rvl_one _) ?c3 ?c4 ?c5 ?_)
        case c3 => unfold maxLen; omega
        case c4 => omega
        case c5 => exact HS2.out
        intro v1 w3 ho1 hg1 _
        obtain ⟨ra1, rp1, rfl⟩ := slice_of_recs ho1
        have HR3 : Hid (Rw z w (w.alloc (.cells #[.int .i64 0, .int .i64 0, .slice none 0 0] 163)) w3 (.slice ra1 (k + 1) rp1) (k + 1)) := HR2.out.step (below_new _ _) ho1 hg1
        clear ho1 hg1
        by_cases hc13 : rc = 13
        · go_wp2_with fail
          go_roundw
          case rel => exact ⟨k + 1, rl - 13, 0, _, ra1, rp1, rfl, rfl, by omega, by omega, .inl (by omega), HC1, HR3⟩
          case measure => simp [slen]; omega
        · go_wp2_with fail
          go_roundw
          case rel => exact ⟨k + 1, rl - 13, rc - 13, _, ra1, rp1, rfl, rfl, by omega, by omega, .inr (by rw [show off + 13 * (k + 1) = off + 13 * k + 13 by omega]), HC1, HR3⟩
          case measure => simp [slen]; omega
      · have hokf : okR (sh z (13 * k)) = false := by simpa using hok
        go_wp2_with fail
        refine (startsWith_some rl (sh z (13 * k)) b (off + 13 * k) rc wr h13 (by omega) hblr hZk (HBK.out wr HR.out.below)).mono ?_
        rintro e w1 ⟨rfl, hb1⟩
        rw [hokf]
        have HR1 : Hid (Rw z w (w.alloc (.cells #[.int .i64 0, .int .i64 0, .slice none 0 0] 163)) w1 (.slice ra k rcp) k) := HR.out.mono hb1
        clear hb1
        have HE : Hid (cnt z n = k) := HC.out.trans (rcn_end (by intro h; exact hok h.2))
        have hwu : IntKind.i64.wrap ((n : Int) - (rl : Int)) = 13 * (k : Int) := by rw [IntKind.wrap_i64]; omega
        have hrc2 : ∀ i x, (w.alloc (.cells #[.int .i64 0, .int .i64 0, .slice none 0 0] 163)).cell? ⟨w.heap.size, i, none⟩ = some x → w1.cell? ⟨w.heap.size, i, none⟩ = some x := fun i x hx => (World.cell?_of_block (w := (w.alloc (.cells #[.int .i64 0, .int .i64 0, .slice none 0 0] 163))) (a := ⟨w.heap.size, i, none⟩) HR1.out.res).trans hx
        have r0 := hrc2 0 (.int .i64 0) (by simp)
        have r1 := hrc2 1 (.int .i64 0) (by simp)
        have r2 := hrc2 2 (.slice none 0 0) (by simp)
        have rf : ∀ i, w1.frozen? ⟨w.heap.size, i, none⟩ = false := fun i => (World.frozen?_of_block (w := (w.alloc (.cells #[.int .i64 0, .int .i64 0, .slice none 0 0] 163))) (a := ⟨w.heap.size, i, none⟩) HR1.out.res).trans (by simp)
        clear hrc2
        go_wp2_with fail
        refine bodyPost_ret (v := .agg #[.int .i64 0, .int .i64 (13 * (k : Int)), .slice ra k rcp]) (by simp [results, Tryz.results178, go_sem, *]) rfl ?_
        rw [HE.out]
        refine ⟨ra, rcp, rfl, rw_end HR1.out ?_⟩
        repeat (first | exact Writes.refl _ _ _ | apply Writes.drew | refine Writes.setCell ?_ (by first | omega | (simp <;> omega)) (by first | omega | (simp <;> omega)) _)
    · go_wp2_with fail
      refine (startsWith_short rl a' rc wr (by omega)).mono ?_
      rintro e w1 ⟨rfl, hb1⟩
      have HR1 : Hid (Rw z w (w.alloc (.cells #[.int .i64 0, .int .i64 0, .slice none 0 0] 163)) w1 (.slice ra k rcp) k) := HR.out.mono hb1
      clear hb1
      have HE : Hid (cnt z n = k) := HC.out.trans (rcn_end (by intro h; omega))
      have hwu : IntKind.i64.wrap ((n : Int) - (rl : Int)) = 13 * (k : Int) := by rw [IntKind.wrap_i64]; omega
      have hrc2 : ∀ i x, (w.alloc (.cells #[.int .i64 0, .int .i64 0, .slice none 0 0] 163)).cell? ⟨w.heap.size, i, none⟩ = some x → w1.cell? ⟨w.heap.size, i, none⟩ = some x := fun i x hx => (World.cell?_of_block (w := (w.alloc (.cells #[.int .i64 0, .int .i64 0, .slice none 0 0] 163))) (a := ⟨w.heap.size, i, none⟩) HR1.out.res).trans hx
      have r0 := hrc2 0 (.int .i64 0) (by simp)
      have r1 := hrc2 1 (.int .i64 0) (by simp)
      have r2 := hrc2 2 (.slice none 0 0) (by simp)
      have rf : ∀ i, w1.frozen? ⟨w.heap.size, i, none⟩ = false := fun i => (World.frozen?_of_block (w := (w.alloc (.cells #[.int .i64 0, .int .i64 0, .slice none 0 0] 163))) (a := ⟨w.heap.size, i, none⟩) HR1.out.res).trans (by simp)
      clear hrc2
      go_wp2_with fail
      refine bodyPost_ret (v := .agg #[.int .i64 0, .int .i64 (13 * (k : Int)), .slice ra k rcp]) (by simp [results, Tryz.results178, go_sem, *]) rfl ?_
      rw [HE.out]
      refine ⟨ra, rcp, rfl, rw_end HR1.out ?_⟩
      repeat (first | exact Writes.refl _ _ _ | apply Writes.drew | refine Writes.setCell ?_ (by first | omega | (simp <;> omega)) (by first | omega | (simp <;> omega)) _)
end Go.Proofs.YtannmobmmnoegaaGreat
