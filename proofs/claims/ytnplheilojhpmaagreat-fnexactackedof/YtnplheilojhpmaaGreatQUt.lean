/- slices.Sort and slices.Compact of a row of numbers of the call's own. -/
import Derived.Test.YtnplheilojhpmaaGreatQPr
import Derived.Deep.RegionLaw
import Derived.Test.YtnplheilojhpmaaGreatQZef
import Derived.Lib.SlicesCompact
import Derived.Test.YtnplheilojhpmaaGreatSho
import Derived.Sort.OwnSortedInts
namespace Go.Proofs.YtnplheilojhpmaaGreat
open Go.RowKit Go.Deep
set_option linter.unusedVariables false
set_option maxRecDepth 20000
open Go.ChangeShapes Go.WideShapes Go.ChangeAt Go.RowKit Go.Deep Go.Joins
open Go.ChangeShapes Go.WideShapes Go.ChangeAt Go.RowKit Go.Deep Go.Joins Go.Sort

def sh (z : Nat → Int) (k i : Nat) : Int := z (k + i)
/-- The eight cells of the record that 13 bytes tell. -/
def rvl (z : Nat → Int) : List Value := [.int .i64 (num z 0 1), .int .i64 (num z 1 2), .int .i64 (num z 3 1), .bool (hdB z), .int .i64 (num z 5 2), .bool (hsB z), .int .i64 (num z 7 2), .int .i64 (num z 9 2)]
/-- The cells of the first k records. -/
def rvs (z : Nat → Int) : Nat → List Value
  | 0 => []
  | k + 1 => rvs z k ++ rvl (sh z (13 * k))
theorem rvl_one (z : Nat → Int) : ∀ u ∈ rvl z, u.oneCell' = true := by
  intro u hu
  simp only [rvl, List.mem_cons, List.mem_nil_iff, or_false] at hu
  rcases hu with rfl | rfl | rfl | rfl | rfl | rfl | rfl | rfl <;> rfl
/-- How many records stand at the beginning of n bytes, counted on from the k-th. -/
def rcn (z : Nat → Int) (n : Nat) : Nat → Nat → Nat
  | 0, k => k
  | f + 1, k => if 13 * (k + 1) ≤ n ∧ okR (sh z (13 * k)) = true then rcn z n f (k + 1) else k
def cnt (z : Nat → Int) (n : Nat) : Nat := rcn z n n 0
theorem rcn_at {z : Nat → Int} {n k : Nat} (h : 13 * (k + 1) ≤ n) (ho : okR (sh z (13 * k)) = true) : rcn z n (n - k) k = rcn z n (n - (k + 1)) (k + 1) := by
  have e : n - k = (n - (k + 1)) + 1 := by omega
  rw [e, rcn, if_pos ⟨h, ho⟩]
theorem rcn_end {z : Nat → Int} {n k : Nat} (h : ¬ (13 * (k + 1) ≤ n ∧ okR (sh z (13 * k)) = true)) : rcn z n (n - k) k = k := by
  cases hf : n - k with
  | zero => rfl
  | succ f => rw [rcn, if_neg h]
def slen : Value → Nat
  | .slice _ n _ => n
  | _ => 0
theorem info45 : (Tryz.prog.info? 71).map (fun i => (i.zero, i.size, i.bytes)) = some (some (.agg #[.int .i64 0, .int .i64 0, .int .i64 0, .bool false, .int .i64 0, .bool false, .int .i64 0, .int .i64 0]), 8, 64) := by kernel_rfl
theorem cell_eight_new (w : World) (z : Nat → Int) (t : TypeId) : ∀ j u, (rvl z)[j]? = some u → (w.alloc (.cells (rvl z).toArray t)).cell? ((⟨w.heap.size, 0, none⟩ : Addr).add j) = some u := by
  intro j u hj
  rw [WideShapes.add_plain]
  have hlt : j < 8 := by
    have := (List.getElem?_eq_some_iff.1 hj).1
    simpa [rvl] using this
  rcases (by omega : j = 0 ∨ j = 1 ∨ j = 2 ∨ j = 3 ∨ j = 4 ∨ j = 5 ∨ j = 6 ∨ j = 7) with rfl | rfl | rfl | rfl | rfl | rfl | rfl | rfl <;> (simp [rvl] at hj; subst hj; simp [rvl])
theorem slice_of_recs {w : World} {base n : Nat} {v : Value} {xs : List Value} (h : w.ownsRow base 71 8 v n xs) : ∃ a cap, v = .slice a n cap := by
  rcases h.2 with ⟨rfl, h0⟩ | ⟨g, cap, cur, rfl, _⟩
  · exact ⟨none, 0, by rw [h0]⟩
  · exact ⟨_, cap, rfl⟩
/-- Where a loop over records stands: what is older is as it was, the answer's box too, and a row of k records. -/
structure Rw (z : Nat → Int) (w W0 wr : World) (v : Value) (k : Nat) : Prop where
  below : Below w.heap.size w wr
  hsz : w.heap.size + 1 ≤ wr.heap.size
  res : wr.heap[w.heap.size]? = W0.heap[w.heap.size]?
  own : wr.ownsRow (w.heap.size + 1) 71 8 v k (rvs z k)
theorem rowR_below {W wq : World} {B n : Nat} {v : Value} {xs : List Value} (h : W.ownsRow B 71 8 v n xs) (hb : Below W.heap.size W wq) : wq.ownsRow B 71 8 v n xs := by
  refine ⟨h.1, ?_⟩
  rcases h.2 with h2 | ⟨g, cap, cur, hv, hbg, hg, r⟩
  · exact .inl h2
  · have hlt : g < W.heap.size := by obtain ⟨hlt, _⟩ := Array.getElem?_eq_some_iff.1 hg; exact hlt
    exact .inr ⟨g, cap, cur, hv, hbg, (hb.block g hlt).trans hg, r⟩
theorem Rw.mono {z : Nat → Int} {w W0 wr wq : World} {v : Value} {k : Nat} (h : Rw z w W0 wr v k) (hb : Below wr.heap.size wr wq) : Rw z w W0 wq v k :=
  ⟨below_then h.below hb, Nat.le_trans h.hsz hb.size, (hb.block _ (by have := h.hsz; omega)).trans h.res, rowR_below h.own hb⟩
theorem Rw.step {z : Nat → Int} {w W0 wr Wd w1 : World} {v v' : Value} {k : Nat} (h : Rw z w W0 wr v k) (hW : Below wr.heap.size wr Wd) (ho : w1.ownsRow (w.heap.size + 1) 71 8 v' (k + 1) (rvs z k ++ rvl (sh z (13 * k)))) (hg : Wd.grownBy w1 v.ownBlock) : Rw z w W0 w1 v' (k + 1) := by
  have hsz := h.hsz
  have hs2 := hW.size
  have hs3 := hg.size
  refine ⟨(h.below.trans (hW.mono (by omega))).grown hg (by omega) (fun q hq => by have := (h.own.lt q hq).1; omega), by omega, ?_, ho⟩
  exact (hg.block _ (by omega) (fun e => by have := (h.own.lt _ e.symm).1; omega)).trans ((hW.block _ (by omega)).trans h.res)
theorem rw_end {z : Nat → Int} {w W0 wr w7 : World} {ra : Option Addr} {rcp k : Nat} (h : Rw z w W0 wr (.slice ra k rcp) k) (hw : Writes w.heap.size (w.heap.size + 1) wr w7) :
    Below w.heap.size w w7 ∧ w7.ownsRow (w.heap.size + 1) 71 8 (.slice ra k rcp) k (rvs z k) := by
  refine ⟨Writes.below h.below hw (Nat.le_refl _), h.own.1, ?_⟩
  rcases h.own.2 with h2 | ⟨g, cap, cur, hv, hbg, hg, r⟩
  · exact .inl h2
  · have hlt : g < wr.heap.size := by obtain ⟨hlt, _⟩ := Array.getElem?_eq_some_iff.1 hg; exact hlt
    exact .inr ⟨g, cap, cur, hv, hbg, (hw.block g hlt (.inr (by omega))).trans hg, r⟩
/-- An answer that is records, or a code. -/
def RcR (c used : Int) (m : Nat) (z : Nat → Int) (w : World) (e : Ending) (w' : World) : Prop :=
  ∃ ra rcp, e = .returned (.agg #[.int .i64 c, .int .i64 used, .slice ra m rcp]) ∧ Below w.heap.size w w' ∧ w'.ownsRow (w.heap.size + 1) 71 8 (.slice ra m rcp) m (rvs z m)
set_option maxHeartbeats 4000000 in
theorem implUr_any (n : Nat) (z : Nat → Int) (a : Option Addr) (b off cap : Nat) (w : World) (hcap : n ≤ cap) (hn : n ≤ 4000) (hz : Byt n z) (ha : n = 0 ∨ a = some ⟨b, off, none⟩ ∧ b < w.heap.size ∧ BA w b off n z) :
    Calls Tryz.prog 65 #[.slice a n cap] w (RcR 0 (13 * (cnt z n : Int)) (cnt z n) z w) := by
  obtain ⟨i0, hi, hz0, hz1, hz2⟩ := info_parts info45
  have HI : Hid (Tryz.prog.info? 71 = some i0 ∧ i0.zero = some (.agg #[.int .i64 0, .int .i64 0, .int .i64 0, .bool false, .int .i64 0, .bool false, .int .i64 0, .int .i64 0]) ∧ i0.size = 8 ∧ i0.bytes = 64) := ⟨hi, hz0, hz1, hz2⟩
  have HZ : Hid (Byt n z) := hz
  have HA : Hid (n = 0 ∨ a = some ⟨b, off, none⟩ ∧ b < w.heap.size ∧ BA w b off n z) := ha
  have hn4 : ¬ (4000 < (n : Int)) := by omega
  have hn5 : ¬ (4000 < n) := by omega
  clear hi hz0 hz1 hz2 hz ha
  go_enter Tryz.func65, Tryz.ntmps65
  go_wp2_with fail
  go_loopw [3, 4] (fun r s wr => ∃ k rl rc : Nat, ∃ a' ra : Option Addr, ∃ rcp : Nat, s = .slice a' rl rc ∧ r = .slice ra k rcp ∧ rl + 13 * k = n ∧ rc + 13 * k = cap ∧ (rl = 0 ∨ a' = some ⟨b, off + 13 * k, none⟩) ∧ Hid (cnt z n = rcn z n (n - k) k) ∧ Hid (Rw z w (w.alloc (.cells #[.int .i64 0, .int .i64 0, .slice none 0 0] 109)) wr (.slice ra k rcp) k)) (fun _ s _ => slen s)
  case atStart => exact ⟨0, n, cap, a, none, 0, rfl, rfl, by omega, by omega, by rcases HA.out with h | h; exact .inl h; exact .inr h.1, rfl, ⟨below_new _ _, by rw [World.size_alloc]; omega, rfl, World.ownsRow_nil _ _ _ _⟩⟩
  case round =>
    obtain ⟨k, rl, rc, a', ra, rcp, rfl, rfl, hrl, hrc, haa, HC, HR⟩ := hrel
    by_cases h13 : 13 ≤ rl
    · rcases haa with h | rfl
      · omega
      rcases HA.out with h | ⟨-, hbl, hba⟩
      · omega
      have hZk : Byt 13 (sh z (13 * k)) := fun i hi => HZ.out _ (by omega)
      have hBk : ∀ W, Below w.heap.size w W → BA W b (off + 13 * k) 13 (sh z (13 * k)) := fun W hW i hi => by
        have := hba.below hW (13 * k + i) (by omega)
        rwa [← Nat.add_assoc] at this
      have hblr : b < wr.heap.size := by have := HR.out.hsz; omega
      have HBK : Hid (∀ W, Below w.heap.size w W → BA W b (off + 13 * k) 13 (sh z (13 * k))) := hBk
      have c13 : ¬ rc = 13 ∨ rc = 13 := by omega
      have d13 : (13 : Int) ≤ (rl : Int) := by omega
      have d14 : (13 : Int) ≤ (rc : Int) := by omega
      clear hba hBk
      by_cases hok : okR (sh z (13 * k)) = true
      · have HC1 : Hid (cnt z n = rcn z n (n - (k + 1)) (k + 1)) := HC.out.trans (rcn_at (by omega) hok)
        go_wp2_with fail
        refine (startsWith_some rl (sh z (13 * k)) b (off + 13 * k) rc wr h13 (by omega) hblr hZk (HBK.out wr HR.out.below)).mono ?_
        rintro e w1 ⟨rfl, hb1⟩
        rw [hok]
        have HR1 : Hid (Rw z w (w.alloc (.cells #[.int .i64 0, .int .i64 0, .slice none 0 0] 109)) w1 (.slice ra k rcp) k) := HR.out.mono hb1
        have hbl1 : b < w1.heap.size := by have := hb1.size; omega
        clear hb1
        go_wp2_with fail
        refine (readRec_some rl (sh z (13 * k)) b (off + 13 * k) rc w1 h13 (by omega) hbl1 hZk (HBK.out w1 HR1.out.below)).mono ?_
        rintro e w2 ⟨rfl, hb2⟩
        have HR2 : Hid (Rw z w (w.alloc (.cells #[.int .i64 0, .int .i64 0, .slice none 0 0] 109)) w2 (.slice ra k rcp) k) := HR1.out.mono hb2
        have HS2 : Hid (w.heap.size + 1 ≤ (w2.alloc (.cells (rvl (sh z (13 * k))).toArray 71)).heap.size) := by show _ ≤ (w2.alloc _).heap.size; rw [World.size_alloc]; have := HR2.out.hsz; omega
        clear hb2
        go_wp2_with (at_builtin; refine wpList_append_own _ rfl (.tmp 12) (.tmp 15) 59 rfl (w.heap.size + 1) 71 i0 (.agg #[.int .i64 0, .int .i64 0, .int .i64 0, .bool false, .int .i64 0, .bool false, .int .i64 0, .int .i64 0]) 8 64 Tryz.underlying59 HI.out.1 HI.out.2.1 HI.out.2.2.1 HI.out.2.2.2 rfl (by decide) (.slice ra k rcp) k (rvs z k) rfl (HR2.out.own.alloc _) ⟨w2.heap.size, 0, none⟩ 1 1 (rvl (sh z (13 * k))) rfl rfl (cell_eight_new _ _ _) (rvl_one _) ?c3 ?c4 ?c5 ?_)
        case c3 => unfold maxLen; omega
        case c4 => omega
        case c5 => exact HS2.out
        intro v1 w3 ho1 hg1 _
        obtain ⟨ra1, rp1, rfl⟩ := slice_of_recs ho1
        have HR3 : Hid (Rw z w (w.alloc (.cells #[.int .i64 0, .int .i64 0, .slice none 0 0] 109)) w3 (.slice ra1 (k + 1) rp1) (k + 1)) := HR2.out.step (below_new _ _) ho1 hg1
        clear ho1 hg1
        by_cases hc13 : rc = 13
        · go_wp2_with fail
          go_roundw
          case rel => exact ⟨k + 1, rl - 13, 0, _, ra1, rp1, rfl, rfl, by omega, by omega, .inl (by omega), HC1, HR3⟩
          case measure => simp [slen]; omega
        · go_wp2_with fail
          go_roundw
          case rel => exact ⟨k + 1, rl - 13, rc - 13, _, ra1, rp1, rfl, rfl, by omega, by omega, .inr (by rw [show off + 13 * (k + 1) = off + 13 * k + 13 by omega]), HC1, HR3⟩
          case measure => simp [slen]; omega
      · have hokf : okR (sh z (13 * k)) = false := by simpa using hok
        go_wp2_with fail
        refine (startsWith_some rl (sh z (13 * k)) b (off + 13 * k) rc wr h13 (by omega) hblr hZk (HBK.out wr HR.out.below)).mono ?_
        rintro e w1 ⟨rfl, hb1⟩
        rw [hokf]
        have HR1 : Hid (Rw z w (w.alloc (.cells #[.int .i64 0, .int .i64 0, .slice none 0 0] 109)) w1 (.slice ra k rcp) k) := HR.out.mono hb1
        clear hb1
        have HE : Hid (cnt z n = k) := HC.out.trans (rcn_end (by intro h; exact hok h.2))
        have hwu : IntKind.i64.wrap ((n : Int) - (rl : Int)) = 13 * (k : Int) := by rw [IntKind.wrap_i64]; omega
        have hrc2 : ∀ i x, (w.alloc (.cells #[.int .i64 0, .int .i64 0, .slice none 0 0] 109)).cell? ⟨w.heap.size, i, none⟩ = some x → w1.cell? ⟨w.heap.size, i, none⟩ = some x := fun i x hx => (World.cell?_of_block (w := (w.alloc (.cells #[.int .i64 0, .int .i64 0, .slice none 0 0] 109))) (a := ⟨w.heap.size, i, none⟩) HR1.out.res).trans hx
        have r0 := hrc2 0 (.int .i64 0) (by simp)
        have r1 := hrc2 1 (.int .i64 0) (by simp)
        have r2 := hrc2 2 (.slice none 0 0) (by simp)
        have rf : ∀ i, w1.frozen? ⟨w.heap.size, i, none⟩ = false := fun i => (World.frozen?_of_block (w := (w.alloc (.cells #[.int .i64 0, .int .i64 0, .slice none 0 0] 109))) (a := ⟨w.heap.size, i, none⟩) HR1.out.res).trans (by simp)
        clear hrc2
        go_wp2_with fail
        refine bodyPost_ret (v := .agg #[.int .i64 0, .int .i64 (13 * (k : Int)), .slice ra k rcp]) (by simp [results, Tryz.results65, go_sem, *]) rfl ?_
        rw [HE.out]
        refine ⟨ra, rcp, rfl, rw_end HR1.out ?_⟩
        repeat (first | exact Writes.refl _ _ _ | apply Writes.drew | refine Writes.setCell ?_ (by first | omega | (simp <;> omega)) (by first | omega | (simp <;> omega)) _)
    · go_wp2_with fail
      refine (startsWith_short rl a' rc wr (by omega)).mono ?_
      rintro e w1 ⟨rfl, hb1⟩
      have HR1 : Hid (Rw z w (w.alloc (.cells #[.int .i64 0, .int .i64 0, .slice none 0 0] 109)) w1 (.slice ra k rcp) k) := HR.out.mono hb1
      clear hb1
      have HE : Hid (cnt z n = k) := HC.out.trans (rcn_end (by intro h; omega))
      have hwu : IntKind.i64.wrap ((n : Int) - (rl : Int)) = 13 * (k : Int) := by rw [IntKind.wrap_i64]; omega
      have hrc2 : ∀ i x, (w.alloc (.cells #[.int .i64 0, .int .i64 0, .slice none 0 0] 109)).cell? ⟨w.heap.size, i, none⟩ = some x → w1.cell? ⟨w.heap.size, i, none⟩ = some x := fun i x hx => (World.cell?_of_block (w := (w.alloc (.cells #[.int .i64 0, .int .i64 0, .slice none 0 0] 109))) (a := ⟨w.heap.size, i, none⟩) HR1.out.res).trans hx
      have r0 := hrc2 0 (.int .i64 0) (by simp)
      have r1 := hrc2 1 (.int .i64 0) (by simp)
      have r2 := hrc2 2 (.slice none 0 0) (by simp)
      have rf : ∀ i, w1.frozen? ⟨w.heap.size, i, none⟩ = false := fun i => (World.frozen?_of_block (w := (w.alloc (.cells #[.int .i64 0, .int .i64 0, .slice none 0 0] 109))) (a := ⟨w.heap.size, i, none⟩) HR1.out.res).trans (by simp)
      clear hrc2
      go_wp2_with fail
      refine bodyPost_ret (v := .agg #[.int .i64 0, .int .i64 (13 * (k : Int)), .slice ra k rcp]) (by simp [results, Tryz.results65, go_sem, *]) rfl ?_
      rw [HE.out]
      refine ⟨ra, rcp, rfl, rw_end HR1.out ?_⟩
      repeat (first | exact Writes.refl _ _ _ | apply Writes.drew | refine Writes.setCell ?_ (by first | omega | (simp <;> omega)) (by first | omega | (simp <;> omega)) _)
/-- A record's eight fields. -/
structure Rc where
  k : Int
  t : Int
  key : Int
  hd : Bool
  old : Int
  hs : Bool
  nw : Int
  bk : Int
/-- Its cells. -/
def C8 (w : World) (b o : Nat) (r : Rc) : Prop :=
  w.cell? ⟨b, o, none⟩ = some (.int .i64 r.k) ∧ w.cell? ⟨b, o + 1, none⟩ = some (.int .i64 r.t) ∧ w.cell? ⟨b, o + 2, none⟩ = some (.int .i64 r.key) ∧ w.cell? ⟨b, o + 3, none⟩ = some (.bool r.hd) ∧
  w.cell? ⟨b, o + 4, none⟩ = some (.int .i64 r.old) ∧ w.cell? ⟨b, o + 5, none⟩ = some (.bool r.hs) ∧ w.cell? ⟨b, o + 6, none⟩ = some (.int .i64 r.nw) ∧ w.cell? ⟨b, o + 7, none⟩ = some (.int .i64 r.bk)
theorem C8.block {w w' : World} {b o : Nat} {r : Rc} (h : C8 w b o r) (e : w'.heap[b]? = w.heap[b]?) : C8 w' b o r := by
  have g : ∀ i, w'.cell? ⟨b, i, none⟩ = w.cell? ⟨b, i, none⟩ := fun i => World.cell?_of_block (w := w) (a := ⟨b, i, none⟩) e
  obtain ⟨h0, h1, h2, h3, h4, h5, h6, h7⟩ := h
  exact ⟨(g _).trans h0, (g _).trans h1, (g _).trans h2, (g _).trans h3, (g _).trans h4, (g _).trans h5, (g _).trans h6, (g _).trans h7⟩
def RecsAt (w : World) (a : Option Addr) (n : Nat) (R : Nat → Rc) : Prop := n = 0 ∨ ∃ b off, a = some ⟨b, off, none⟩ ∧ b < w.heap.size ∧ ∀ i, i < n → C8 w b (off + i * 8) (R i)
def Row8 (w : World) (b off n : Nat) (R : Nat → Rc) : Prop := (∀ i, i < n → C8 w b (off + i * 8) (R i)) ∧ ∀ i, w.frozen? ⟨b, i, none⟩ = false
def Own8 (w : World) (lo hi : Nat) (a : Option Addr) (n : Nat) (R : Nat → Rc) : Prop := hi ≤ w.heap.size ∧ (n = 0 ∨ ∃ b off, a = some ⟨b, off, none⟩ ∧ lo ≤ b ∧ b < hi ∧ Row8 w b off n R)
theorem RecsAt.below {w w' : World} {a : Option Addr} {n : Nat} {R : Nat → Rc} (h : RecsAt w a n R) (hb : Below w.heap.size w w') : RecsAt w' a n R := by
  rcases h with h | ⟨b, off, ha, hl, hc⟩
  · exact .inl h
  · exact .inr ⟨b, off, ha, Nat.lt_of_lt_of_le hl hb.size, fun i hi => (hc i hi).block (hb.block _ hl)⟩
theorem Own8.at {w : World} {lo hi : Nat} {a : Option Addr} {n : Nat} {R : Nat → Rc} (h : Own8 w lo hi a n R) : RecsAt w a n R := by
  obtain ⟨h0, h1 | ⟨b, off, ha, _, hl, hc⟩⟩ := h
  · exact .inl h1
  · exact .inr ⟨b, off, ha, by omega, hc.1⟩
theorem Own8.writes {w w' : World} {lo hi lo' hi' : Nat} {a : Option Addr} {n : Nat} {R : Nat → Rc} (h : Own8 w lo hi a n R) (hw : Writes lo' hi' w w') (hd : hi ≤ lo' ∨ hi' ≤ lo) : Own8 w' lo hi a n R := by
  obtain ⟨h0, h1 | ⟨b, off, ha, h2, hl, hc⟩⟩ := h
  · exact ⟨Nat.le_trans h0 hw.size, .inl h1⟩
  · have hb := hw.block b (by omega) (by omega)
    exact ⟨Nat.le_trans h0 hw.size, .inr ⟨b, off, ha, h2, hl, fun i hi => (hc.1 i hi).block hb, fun i => (World.frozen?_of_block (w := w) (a := ⟨b, i, none⟩) hb).trans (hc.2 i)⟩⟩
theorem Own8.below {w w' : World} {lo hi : Nat} {a : Option Addr} {n : Nat} {R : Nat → Rc} (h : Own8 w lo hi a n R) (hb : Below w.heap.size w w') : Own8 w' lo hi a n R :=
  h.writes (Writes.of_below (lo := hi) (hi := hi) hb) (.inl (Nat.le_refl _))
theorem Own8.wide {w : World} {lo hi lo' hi' : Nat} {a : Option Addr} {n : Nat} {R : Nat → Rc} (h : Own8 w lo hi a n R) (h1 : lo' ≤ lo) (h2 : hi ≤ hi') (h3 : hi' ≤ w.heap.size) : Own8 w lo' hi' a n R := by
  obtain ⟨h0, h4 | ⟨b, off, ha, h5, hl, r⟩⟩ := h
  · exact ⟨h3, .inl h4⟩
  · exact ⟨h3, .inr ⟨b, off, ha, by omega, by omega, r⟩⟩
/-! ### equal -/
/-! ### marked -/
/-! ### lists that rise -/
theorem rise_eq : ∀ (l m : List Int), l.Pairwise (· < ·) → m.Pairwise (· < ·) → (∀ x, x ∈ l ↔ x ∈ m) → l = m
  | [], [], _, _, _ => rfl
  | [], y :: m, _, _, h => by have := (h y).2 (by simp); simp at this
  | x :: l, [], _, _, h => by have := (h x).1 (by simp); simp at this
  | x :: l, y :: m, h1, h2, h => by
    have e : x = y := by
      rcases List.mem_cons.1 ((h x).1 (by simp)) with e | e
      · exact e
      · have q1 := List.rel_of_pairwise_cons h2 e
        rcases List.mem_cons.1 ((h y).2 (by simp)) with e' | e'
        · exact e'.symm
        · have q2 := List.rel_of_pairwise_cons h1 e'
          omega
    subst e
    refine congrArg _ (rise_eq l m (List.Pairwise.of_cons h1) (List.Pairwise.of_cons h2) fun z => ?_)
    constructor
    · intro hz
      rcases List.mem_cons.1 ((h z).1 (by simp [hz])) with e | e
      · have := List.rel_of_pairwise_cons h1 hz; omega
      · exact e
    · intro hz
      rcases List.mem_cons.1 ((h z).2 (by simp [hz])) with e | e
      · have := List.rel_of_pairwise_cons h2 hz; omega
      · exact e
theorem ri_mem : ∀ (l : List Int) (v x : Int), x ∈ ri l v ↔ x = v ∨ x ∈ l
  | [], v, x => by simp [ri]
  | y :: r, v, x => by
    simp only [ri]
    split
    · simp only [List.mem_cons, ri_mem r v x]
      constructor
      · rintro (h | h | h) <;> simp [h]
      · rintro (h | h | h) <;> simp [h]
    · split
      · rename_i h1 h2
        simp only [List.mem_cons]
        constructor
        · rintro (h | h) <;> simp [h]
        · rintro (h | h | h)
          · left; omega
          · simp [h]
          · simp [h]
      · simp only [List.mem_cons]
theorem ri_rise : ∀ (l : List Int) (v : Int), l.Pairwise (· < ·) → (ri l v).Pairwise (· < ·)
  | [], v, _ => by simp [ri]
  | y :: r, v, h => by
    simp only [ri]
    split
    · rename_i h1
      refine List.Pairwise.cons (fun z hz => ?_) (ri_rise r v (List.Pairwise.of_cons h))
      rcases (ri_mem r v z).1 hz with e | e
      · omega
      · exact List.rel_of_pairwise_cons h e
    · split
      · exact h
      · rename_i h1 h2
        refine List.Pairwise.cons (fun z hz => ?_) h
        rcases List.mem_cons.1 hz with e | e
        · omega
        · have := List.rel_of_pairwise_cons h e; omega
/-- Sorted. -/
def sortL (zs : List Int) : List Int := zs.mergeSort fun x y => decide (x ≤ y)
theorem sortL_len (zs : List Int) : (sortL zs).length = zs.length := by simp [sortL]
theorem sortL_mem (l : List Int) (x : Int) : x ∈ sortL l ↔ x ∈ l := (List.mergeSort_perm l _).mem_iff
theorem sortL_up (l : List Int) : (sortL l).Pairwise (· ≤ ·) := by
  have h1 : (sortL l).Pairwise (fun x y => decide (x ≤ y) = true) := List.pairwise_mergeSort (fun a b c h1 h2 => by simp at *; omega) (fun a b => by simp; omega) l
  exact h1.imp fun hh => by simpa using hh
/-- Of neighbours that are equal, one. -/
def cpL (zs : List Int) : List Int := Go.Lib.compactUpTo zs.toArray zs.toArray.size
theorem cp_mem (d : Array Int) (x : Int) : ∀ m, m ≤ d.size → (x ∈ Go.Lib.compactUpTo d m ↔ ∃ j, j < m ∧ d[j]! = x)
  | 0, _ => by simp [Go.Lib.compactUpTo]
  | m + 1, h => by
    rw [Go.Lib.compactUpTo_succ, List.mem_append, cp_mem d x m (by omega)]
    constructor
    · rintro (⟨j, h1, h2⟩ | h1)
      · exact ⟨j, by omega, h2⟩
      · refine ⟨m, by omega, ?_⟩
        split at h1
        · simp at h1; exact h1.symm
        · cases h1
    · rintro ⟨j, h1, h2⟩
      by_cases e : j = m
      · subst e
        by_cases hk : Go.Lib.keeps d j = true
        · right; rw [if_pos hk]; simp [h2]
        · left
          have h0 : ¬ j = 0 := fun e => hk (by rw [e]; exact Go.Lib.keeps_lt_one d 0 (by omega))
          refine ⟨j - 1, by omega, ?_⟩
          rw [← h2]
          apply Classical.byContradiction
          intro hn
          exact hk (Go.Lib.keeps_pos (fun e => hn e.symm))
      · exact .inl ⟨j, by omega, h2⟩
theorem cp_rise (d : Array Int) (hs : ∀ i j, i ≤ j → j < d.size → d[i]! ≤ d[j]!) : ∀ m, m ≤ d.size → (Go.Lib.compactUpTo d m).Pairwise (· < ·)
  | 0, _ => by simp [Go.Lib.compactUpTo]
  | m + 1, h => by
    rw [Go.Lib.compactUpTo_succ, List.pairwise_append]
    refine ⟨cp_rise d hs m (by omega), by split <;> simp, fun x hx y hy => ?_⟩
    split at hy
    · rename_i hk
      have e : y = d[m]! := by simpa using hy
      obtain ⟨j, h1, h2⟩ := (cp_mem d x m (by omega)).1 hx
      have h0 : 0 < m := by omega
      have hne : d[m]! ≠ d[m - 1]! := by
        intro e2
        rw [Go.Lib.keeps_neg h0 e2] at hk
        cases hk
      have q1 := hs j (m - 1) (by omega) (by omega)
      have q2 := hs (m - 1) m (by omega) (by omega)
      rw [e, ← h2]
      omega
    · cases hy
theorem up_get {l : List Int} (h : l.Pairwise (· ≤ ·)) : ∀ i j, i ≤ j → j < l.toArray.size → l.toArray[i]! ≤ l.toArray[j]! := fun i j hij hj => by
  have hj' : j < l.length := by simpa using hj
  rw [getElem!_pos l.toArray i (by simpa using (by omega : i < l.length)), getElem!_pos l.toArray j hj]
  simp only [List.getElem_toArray]
  rcases Nat.lt_or_ge i j with hlt | hge
  · exact List.pairwise_iff_getElem.1 h i j (by omega) hj' hlt
  · have : i = j := by omega
    subst this
    exact Int.le_refl _
theorem cpL_rise {l : List Int} (h : l.Pairwise (· ≤ ·)) : (cpL l).Pairwise (· < ·) := cp_rise _ (up_get h) _ (Nat.le_refl _)
theorem cpL_mem (l : List Int) (x : Int) : x ∈ cpL l ↔ x ∈ l := by
  unfold cpL
  rw [cp_mem _ _ _ (Nat.le_refl _)]
  constructor
  · rintro ⟨j, h1, h2⟩
    rw [getElem!_pos l.toArray j h1] at h2
    rw [← h2]
    simp
  · intro h
    obtain ⟨j, hj, e⟩ := List.getElem_of_mem h
    refine ⟨j, by simpa using hj, ?_⟩
    rw [getElem!_pos l.toArray j (by simpa using hj)]
    simpa using e
theorem cp_len (d : Array Int) : ∀ m, (Go.Lib.compactUpTo d m).length ≤ m
  | 0 => by simp [Go.Lib.compactUpTo]
  | m + 1 => by
    rw [Go.Lib.compactUpTo_succ, List.length_append]
    have := cp_len d m
    split <;> simp <;> omega
theorem cpL_len (l : List Int) : (cpL l).length ≤ l.length := by
  have := cp_len l.toArray l.toArray.size
  simpa [cpL] using this
/-- The transactions of the first k records of one kind, as they come; and rising. -/
def akL (R : Nat → Rc) (kd : Int) : Nat → List Int
  | 0 => []
  | k + 1 => if (R k).k = kd then akL R kd k ++ [(R k).t] else akL R kd k
def kdL (R : Nat → Rc) (kd : Int) : Nat → List Int
  | 0 => []
  | k + 1 => if (R k).k = kd then ri (kdL R kd k) (R k).t else kdL R kd k
theorem akL_len (R : Nat → Rc) (kd : Int) : ∀ k, (akL R kd k).length ≤ k
  | 0 => Nat.le_refl _
  | k + 1 => by
    have := akL_len R kd k
    rw [akL]
    split
    · rw [List.length_append]; simp; omega
    · omega
theorem kdL_len (R : Nat → Rc) (kd : Int) : ∀ k, (kdL R kd k).length ≤ k
  | 0 => Nat.le_refl _
  | k + 1 => by
    have h := kdL_len R kd k
    rw [kdL]
    split
    · have := ri_len (kdL R kd k) (R k).t; omega
    · omega
theorem kdL_rise (R : Nat → Rc) (kd : Int) : ∀ k, (kdL R kd k).Pairwise (· < ·)
  | 0 => List.Pairwise.nil
  | k + 1 => by
    rw [kdL]
    split
    · exact ri_rise _ _ (kdL_rise R kd k)
    · exact kdL_rise R kd k
theorem kd_mem (R : Nat → Rc) (kd x : Int) : ∀ k, x ∈ kdL R kd k ↔ x ∈ akL R kd k
  | 0 => by simp [kdL, akL]
  | k + 1 => by
    have h := kd_mem R kd x k
    rw [kdL, akL]
    split
    · rw [ri_mem, h, List.mem_append]
      constructor
      · rintro (e | e)
        · right; simp [e]
        · exact .inl e
      · rintro (e | e)
        · exact .inr e
        · left; simpa using e
    · exact h
theorem acked_eq (R : Nat → Rc) (kd : Int) (k : Nat) : cpL (sortL (akL R kd k)) = kdL R kd k :=
  rise_eq _ _ (cpL_rise (sortL_up _)) (kdL_rise R kd k) fun x => by rw [cpL_mem, sortL_mem, kd_mem]
set_option maxHeartbeats 2000000 in
theorem sort_own (base : Nat) (v : Value) (zs : List Int) (W : World) (hl : zs.length ≤ 100000) (hrow : W.ownsRow base 2 1 v zs.length (il zs)) :
    Calls Tryz.prog 28 #[v] W fun e w' => e = .returned (.tuple #[]) ∧ w'.ownsRow base 2 1 v (sortL zs).length (il (sortL zs)) ∧ W.grownBy w' v.ownBlock := by
  rcases hrow.2 with ⟨rfl, hz⟩ | ⟨gb, cap, cur, rfl, hbase, hgb, r1, r2, r3, r4⟩
  · have hss : zs = [] := List.eq_nil_of_length_eq_zero hz
    have HS : Calls Tryz.prog 28 #[.slice none 0 0] W (fun e w' => e = .returned (.tuple #[]) ∧ w' = W) := AnyM.slices_Sort_int_none Tryz.sortA none 0 W
    refine HS.mono ?_
    rintro e w' ⟨rfl, rfl⟩
    subst hss
    exact ⟨rfl, by simpa [sortL] using hrow, grown_refln _ _⟩
  · have hH : Holds (Value.int .i64) W gb 0 zs.toArray := holds_of_blockI hgb (by rw [Nat.mul_one] at r4; exact r4)
    have hgl : gb < W.heap.size := (Array.getElem?_eq_some_iff.1 hgb).1
    have cS : Calls Tryz.prog 28 #[.slice (some ⟨gb, 0, none⟩) zs.length cap] W (fun e w' => e = .returned (.tuple #[]) ∧ ∃ n os, w' = grow (putRow (Value.int .i64) (Sort.ahead W n) gb 0 (sortL zs).toArray) os) := AnyM.slices_Sort_int Tryz.sortA gb 0 cap zs W hH hgl (by omega)
    refine cS.mono ?_
    rintro e w' ⟨rfl, nn, os, rfl⟩
    refine ⟨rfl, ?_, grownBy_sortedI _⟩
    rw [sortL_len]
    exact ownsRow_sortedI (sortL_len zs) hbase hgb r1 r2 r3
theorem grow_none (w : World) : grow w #[] = w := by simp [grow]
theorem take_putCellsC (cur : Array Value) (ts us : List Int) (h : ts.length + us.length ≤ cur.size) : (putCells (Value.int .i64) 0 (ts ++ us).toArray cur).toList.take ts.length = ts.map (Value.int .i64) := by
  have q := take_putCellsI cur (ts ++ us) (by rw [List.length_append]; exact h)
  have q2 := congrArg (List.take ts.length) q
  rw [List.take_take, List.length_append, Nat.min_eq_left (by omega), List.map_append, List.take_append_of_le_length (by simp)] at q2
  refine q2.trans ?_
  exact List.take_of_length_le (by simp)
set_option maxHeartbeats 2000000 in
theorem comp_own (base : Nat) (v : Value) (zs : List Int) (W : World) (hl : zs.length ≤ 100000) (hrow : W.ownsRow base 2 1 v zs.length (il zs)) :
    Calls Tryz.prog 29 #[v] W fun e w' => ∃ u, e = .returned u ∧ w'.ownsRow base 2 1 u (cpL zs).length (il (cpL zs)) ∧ W.grownBy w' v.ownBlock := by
  rcases hrow.2 with ⟨rfl, hz⟩ | ⟨gb, cap, cur, rfl, hbase, hgb, r1, r2, r3, r4⟩
  · have hss : zs = [] := List.eq_nil_of_length_eq_zero hz
    subst hss
    have HR : Hid (W.ownsRow base 2 1 (.slice none 0 0) (cpL []).length (il (cpL []))) := by
      show World.ownsRow _ _ _ _ _ _ _
      simpa [cpL, Go.Lib.compactUpTo] using hrow
    clear hrow hz hl
    go_enter Tryz.func29, Tryz.ntmps29
    go_wp2_with fail
    go_ret
    exact ⟨_, rfl, HR.out, grown_refln _ _⟩
  · have hH : Holds (Value.int .i64) W gb 0 zs.toArray := holds_of_blockI hgb (by rw [Nat.mul_one] at r4; exact r4)
    have cS : Calls Tryz.prog 29 #[.slice (some ⟨gb, 0, none⟩) zs.toArray.size cap] W (fun e w' => e = .returned (.slice (some ⟨gb, 0, none⟩) (Go.Lib.compactUpTo zs.toArray zs.toArray.size).length cap) ∧ ∃ q, w' = putRow (Value.int .i64) (Sort.ahead W q) gb 0 (Go.Lib.compactUpTo zs.toArray zs.toArray.size ++ List.replicate (zs.toArray.size - (Go.Lib.compactUpTo zs.toArray zs.toArray.size).length) 0).toArray) :=
      AnyE.slices_Compact Tryz.compA (Value.int .i64) (fun _ => rfl) (EqlAt.intD _ _ _) (NeqAt.intD _ _ _) (0 : Int) (fun w => by kernel_rfl) gb 0 cap zs.toArray W hH (by simp; omega) (by simpa using r1)
    have hsz : zs.toArray.size = zs.length := by simp
    rw [hsz] at cS
    have hcl := cpL_len zs
    refine Calls.mono cS ?_
    rintro e w' ⟨rfl, nn, rfl⟩
    have e1 : Go.Lib.compactUpTo zs.toArray zs.length = cpL zs := by unfold cpL; rw [hsz]
    rw [e1]
    rw [← grow_none (putRow _ _ _ _ _)]
    refine ⟨_, rfl, ⟨by simp [il], .inr ⟨gb, cap, _, rfl, hbase, heap_sortedI _ hgb, by omega, r2, by simp [putCells, r3], ?_⟩⟩, grownBy_sortedI _⟩
    rw [Nat.mul_one]
    exact take_putCellsC cur _ _ (by rw [List.length_replicate]; omega)
end Go.Proofs.YtnplheilojhpmaaGreat
