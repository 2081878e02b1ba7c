/- spec.CommitStore. -/
import Derived.BigQuiet
import Derived.Test.YtannmobmmnoegaaGreatRZkl1
namespace Go.Proofs.YtannmobmmnoegaaGreat
open Go.ChangeShapes Go.WideShapes Go.ChangeAt Go.RowKit Go.Deep Go.Joins
set_option linter.unusedVariables false
set_option linter.unusedSimpArgs false
set_option maxRecDepth 20000

/-- A store with another log. -/
def lgG (s : Sto) (g : Lo) : Sto := ⟨s.nx, s.pn, s.pT, s.d, g, s.hn, s.hK, s.hV, s.on, s.oF⟩
theorem Wk.logG {s : Sto} {n : Nat} {xs : List Value} {lo : Nat} {col : Nat → Nat} {B l h d1 d2 : Nat} {w : World} {x1 x2 : Option Addr} {G : Lo} (H : Wk s n xs lo col B w) (hll : lo ≤ l) (hlh : l ≤ h) (hh : h ≤ w.heap.size) (hc : ∀ x, l ≤ x → x < h → col x = 0 ∧ x ≠ B) (hg : OwnG w l h x1 x2 G) :
    Wk (lgG s G) n xs lo (colr col l h 3) B ((w.setCell ⟨B, 4, none⟩ (.slice x1 G.n1 d1)).setCell ⟨B, 5, none⟩ (.slice x2 G.n2 d2)) := by
  obtain ⟨b0, e0, b1, e1, b2, e2, b3, e3, b4, e4, b5, e5, b6, e6, ra, rc, h1, ⟨h2, h3, h4, h5, h6, h7, h8, h9⟩, g1, g2, g3, g4, g5, g6, g7⟩ := H
  obtain ⟨W, hW⟩ : ∃ x, x = (w.setCell ⟨B, 4, none⟩ (.slice x1 G.n1 d1)).setCell ⟨B, 5, none⟩ (.slice x2 G.n2 d2) := ⟨_, rfl⟩
  have hw : Writes B (B + 1) w W := by rw [hW]; exact ((Writes.refl _ _ _).setCell (p := ⟨B, 4, none⟩) (Nat.le_refl _) (Nat.lt_succ_self _) _).setCell (p := ⟨B, 5, none⟩) (Nat.le_refl _) (Nat.lt_succ_self _) _
  have hbx : BoxS W B (.int .i64 s.nx) (.slice b0 s.pn e0) (.slice b1 s.d.n e1) (.slice b2 s.d.m e2) (.slice x1 G.n1 d1) (.slice x2 G.n2 d2) (.slice b5 s.hn e5) (.slice b6 s.on e6) := by
    rw [hW]
    refine ⟨?_, ?_, ?_, ?_, ?_, ?_, ?_, ?_⟩ <;> simp [go_sem, *]
  have q8 : W.cell? ⟨B, 8, none⟩ = some (.slice ra n rc) := by rw [hW]; simp [go_sem, *]
  have q9 : W.cell? ⟨B, 9, none⟩ = some (.func (Fn.func 170) #[] #[]) := by rw [hW]; simp [go_sem, *]
  have qf : ∀ i, W.frozen? ⟨B, i, none⟩ = false := fun i => by rw [hW, World.frozen?_setCell, World.frozen?_setCell]; exact g3 i
  rw [← hW]
  clear hW
  have hne : ∀ x, col x ≠ 0 → x < w.heap.size → W.heap[x]? = w.heap[x]? := fun x hx hl => hw.block x hl (by
    have : x ≠ B := fun e => by rw [e] at hx; exact hx g4
    omega)
  have hcr : ∀ x, col x ≠ 0 → colr col l h 3 x = col x := fun x hx => by
    unfold colr
    rw [if_neg (fun c => hx (hc x c.1 c.2).1)]
  have p1 := g5.keep hw.size hne
  have p2 := p1.recol (col' := colr col l h 3) (fun x hx => by
    by_cases c : l ≤ x ∧ x < h
    · have := hw.size; omega
    · unfold colr at hx; rw [if_neg c] at hx; exact p1.hc x hx) hcr
  refine ⟨b0, e0, b1, e1, b2, e2, x1, d1, x2, d2, b5, e5, b6, e6, ra, rc, h1, hbx, q8, q9, qf, ?_, ?_, ownsRow_of g6 fun q hq => hne q (by rw [g7 q hq]; omega) (g6.lt q hq).2, fun q hq => by rw [hcr q (by rw [g7 q hq]; omega)]; exact g7 q hq⟩
  · unfold colr
    by_cases c : l ≤ B ∧ B < h
    · exact absurd rfl (hc B c.1 c.2).2
    · rw [if_neg c]; exact g4
  · exact ⟨p2.hc, p2.ph, p2.po, p2.pp, p2.pd, fun _ => ⟨x1, d1, x2, d2, l, h, rfl, rfl, fun x k1 k2 => colr_new k1 k2, hg.writes hw (by
      by_cases c : l ≤ B ∧ B < h
      · exact absurd rfl (hc B c.1 c.2).2
      · omega)⟩⟩
theorem set_step2 {col : Nat → Nat} {B : Nat} {w w1 : World} {p q : Nat} {v u : Value} {k5 : Nat} (hb : Below w.heap.size w w1) :
    WkF col B w ((w1.setCell ⟨B, p, none⟩ v).setCell ⟨B, q, none⟩ u) ∧ ∀ x, x < w.heap.size → colr col w.heap.size w1.heap.size k5 x ≠ 0 → col x ≠ 0 :=
  ⟨(WkF.of_below hb).trans (WkF.of_writes (col := col) (((Writes.refl _ _ _).setCell (p := ⟨B, p, none⟩) (Nat.le_refl _) (Nat.lt_succ_self _) _).setCell (p := ⟨B, q, none⟩) (Nat.le_refl _) (Nat.lt_succ_self _) _)) (fun _ _ h => h), fun x hx q => by rw [colr_old hx] at q; exact q⟩
/-- A log behind one more record has no fault, and its bytes are bytes. -/
theorem apR_facts {L : Lo} {k t key : Int} {hd : Bool} {old : Int} {hs : Bool} {nw bk : Int} (hg : lgC L = 0) (hr : rf k t key hd old hs nw bk = 0) (hf : L.n1 + L.n2 + 13 ≤ 4000) (hb : LogByt L) : lgC (apR L (rb k t key hd old hs nw bk)) = 0 ∧ LogByt (apR L (rb k t key hd old hs nw bk)) :=
  ⟨(more_facts (r := ⟨k, t, key, hd, old, hs, nw, bk⟩) hg hr hf).1, more_byt (r := ⟨k, t, key, hd, old, hs, nw, bk⟩) hb⟩
/-- What turns a store at work for one that is open answers: a code and, where that is 0, the store R. -/
def CoR (c : Int) (R : Sto) (lo B : Nat) (col : Nat → Nat) (w : World) (e : Ending) (w' : World) : Prop :=
  ∃ R' n' xs' col', e = .returned (.int .i64 c) ∧ (c = 0 → R' = R) ∧ (∀ x, x < w.heap.size → col' x ≠ 0 → col x ≠ 0) ∧ WkF col B w w' ∧ Wk R' n' xs' lo col' B w'
/-- A store in which x has committed. -/
def cmS (s : Sto) (x : Int) : Sto := lgG (enS (lgS s (rb 3 x 0 false 0 false 0 0)) x) (flL (apR s.g (rb 3 x 0 false 0 false 0 0)))
def c1C (s : Sto) : Int := if s.g.n1 + s.g.n2 + 13 ≤ 4000 then 0 else 2
set_option maxHeartbeats 16000000 in
theorem commit1_any (s : Sto) (n : Nat) (xs : List Value) (lo : Nat) (col : Nat → Nat) (B X : Nat) (x : Int) (w : World) (hsz : s.g.n1 + s.g.n2 ≤ 4000) (hx : 1 ≤ x ∧ x ≤ 999) (hlg : lgC s.g = 0) (hby : LogByt s.g) (hn : n ≤ 90000) (hon : s.on ≤ 1048576) (hhn : s.hn ≤ 1048576) (hX : w.cell? ⟨X, 0, none⟩ = some (.int .i64 x)) (H : Wk s n xs lo col B w) :
    Calls Tryz.prog 58 #[.pointer (some ⟨B, 0, none⟩), .pointer (some ⟨X, 0, none⟩)] w (CoR (c1C s) (cmS s x) lo B col w) := by
  have HWK : Hid (Wk s n xs lo col B w) := H
  have HLG : Hid (lgC s.g = 0) := hlg
  have HBY : Hid (LogByt s.g) := hby
  have HX : Hid (1 ≤ x ∧ x ≤ 999) := hx
  have HRF : Hid (rf 3 x 0 false 0 false 0 0 = 0) := rf_end (.inl rfl) hx
  clear hlg hby H hx
  go_enter Tryz.func58, Tryz.ntmps58
  go_wp2_with fail
  refine (endOpen_any s n xs lo col B 3 x w hsz (.inl rfl) HX.out HLG.out HBY.out hn hon hhn HWK.out).mono ?_
  rintro e w1 (⟨hbig, rfl, hb1⟩ | ⟨hle, rfl, col1, hc1, hf1, hk1⟩)
  · have HE : Hid (CoR (c1C s) (cmS s x) lo B col w (.returned (.int .i64 2)) w1) := by
      have e2 : c1C s = 2 := if_neg (by omega)
      rw [e2]
      exact ⟨s, n, xs, col, rfl, fun h => absurd h (by omega), fun _ _ h => h, WkF.of_below hb1, HWK.out.below hb1⟩
    clear hb1 hbig
    go_wp2_with fail
    go_ret
    exact HE.out
  · have HC0 : Hid (c1C s = 0) := if_pos hle
    have HAF : Hid (lgC (apR s.g (rb 3 x 0 false 0 false 0 0)) = 0 ∧ LogByt (apR s.g (rb 3 x 0 false 0 false 0 0))) := apR_facts HLG.out HRF.out hle HBY.out
    have HK1 : Hid (Wk (enS (lgS s (rb 3 x 0 false 0 false 0 0)) x) (n + 1) (xs ++ rv8 3 x 0 false 0 false 0 0) lo col1 B w1) := hk1
    have HF1 : Hid (WkF col B w w1) := hf1
    have HC1 : Hid (∀ x, x < w.heap.size → col1 x ≠ 0 → col x ≠ 0) := hc1
    have HLE : Hid (s.g.n1 + s.g.n2 + 13 ≤ 4000) := hle
    obtain ⟨b0, e0, b1, e1, b2, e2, b3, e3, b4, e4, b5, e5, b6, e6, ra1, rc1, hlo1, hbx1, -, -, hfz1, -, hpc1, -⟩ := HK1.out
    have HIN : Hid (LogAt w1 b3 b4 (apR s.g (rb 3 x 0 false 0 false 0 0))) := hpc1.own.at.2.2.1
    have u4 : w1.cell? ⟨B, 4, none⟩ = some (.slice b3 s.g.n1 e3) := hbx1.2.2.2.2.1
    have u5 : w1.cell? ⟨B, 5, none⟩ = some (.slice b4 (s.g.n2 + 13) e4) := hbx1.2.2.2.2.2.1
    clear hpc1 hbx1 hk1 hf1 hc1 hle
    have hfd : ∀ (a b : Value) (u v : Int) (q : World), (Instr.field 99 (.agg #[.int .i64 u, .int .i64 v, a, b]) 2).run Tryz.prog q = .ok (.agg #[a, b]) q := fun _ _ _ _ _ => by kernel_rfl
    go_wp2_with fail
    refine (implFl_any (apR s.g (rb 3 x 0 false 0 false 0 0)) b3 b4 e3 e4 w1 (by have := HLE.out; show s.g.n1 ≤ _; omega) (by have := HLE.out; show s.g.n2 + 13 ≤ _; omega) HAF.out.2 HIN.out).mono ?_
    rintro e w2 ⟨y1, y2, d1, d2, rfl, hb2, ho2⟩
    rw [HAF.out.1]
    have HK2 : Hid (Wk (cmS s x) (n + 1) (xs ++ rv8 3 x 0 false 0 false 0 0) lo (colr col1 w1.heap.size w2.heap.size 3) B ((w2.setCell ⟨B, 4, none⟩ (.slice y1 (flL (apR s.g (rb 3 x 0 false 0 false 0 0))).n1 d1)).setCell ⟨B, 5, none⟩ (.slice y2 (flL (apR s.g (rb 3 x 0 false 0 false 0 0))).n2 d2))) := by
      have hl := HK1.out.lt
      exact Wk.logG (HK1.out.below hb2) (by omega) hb2.size (Nat.le_refl _) (fun y y1 y2 => ⟨by
        by_cases e : col1 y = 0
        · exact e
        · have := (hl.2.2 y e).2; omega, by have := hl.2.1; omega⟩) ho2
    have HS2 : Hid (WkF col1 B w1 ((w2.setCell ⟨B, 4, none⟩ (.slice y1 (flL (apR s.g (rb 3 x 0 false 0 false 0 0))).n1 d1)).setCell ⟨B, 5, none⟩ (.slice y2 (flL (apR s.g (rb 3 x 0 false 0 false 0 0))).n2 d2)) ∧ ∀ y, y < w1.heap.size → colr col1 w1.heap.size w2.heap.size 3 y ≠ 0 → col1 y ≠ 0) := set_step2 hb2
    have z4 := cell_below u4 hb2
    have z5 := cell_below u5 hb2
    have zf : ∀ i, w2.frozen? ⟨B, i, none⟩ = false := fun i => (hb2.frozen (p := ⟨B, i, none⟩) (show B < w1.heap.size from HK1.out.lt.2.1)).trans (hfz1 i)
    generalize (flL (apR s.g (rb 3 x 0 false 0 false 0 0))).n1 = N1 at *
    generalize (flL (apR s.g (rb 3 x 0 false 0 false 0 0))).n2 = N2 at *
    have HEND : Hid (CoR (c1C s) (cmS s x) lo B col w (.returned (.int .i64 0)) ((w2.setCell ⟨B, 4, none⟩ (.slice y1 N1 d1)).setCell ⟨B, 5, none⟩ (.slice y2 N2 d2))) := by
      rw [HC0.out]
      have s1 := HF1.out.size
      exact ⟨_, _, _, _, rfl, fun _ => rfl, fun y hy q => HC1.out y hy (HS2.out.2 y (by omega) q), HF1.out.trans HS2.out.1 HC1.out, HK2.out⟩
    clear hb2 ho2 u4 u5 HK2 HS2
    go_wp2_with fail
    go_ret
    exact HEND.out
set_option maxHeartbeats 16000000 in
theorem turnOpen1_any (t : Sto) (a0 : Option Addr) (c0 : Nat) (a1 : Option Addr) (c1 : Nat) (a2 : Option Addr) (c2 : Nat) (a3 : Option Addr) (c3 : Nat) (a4 : Option Addr) (c4 : Nat) (a5 : Option Addr) (c5 : Nat) (a6 : Option Addr) (c6 : Nat) (P Q : Nat) (c v : Int) (R : Sto) (w : World) (hS : SmSt t) (hby : LogByt t.g) (h : InSt w a0 a1 a2 a3 a4 a5 a6 t) (hbad : stF t ≠ 0 → c = stF t ∧ v = 0 ∧ R = zSt) (hz : c ≠ 0 → v = 0 ∧ R = zSt)
    (hcb : stF t = 0 → ∀ (lo : Nat) (col : Nat → Nat) (B : Nat) (u : World), w.heap.size ≤ lo → Below w.heap.size w u → Wk t (cnt (aZ t.g) (t.g.n1 + t.g.n2)) (rvs (aZ t.g) (cnt (aZ t.g) (t.g.n1 + t.g.n2))) lo col B u → Calls Tryz.prog 122 #[.pointer (some ⟨B, 0, none⟩), .pointer (some ⟨P, 0, none⟩), .pointer (some ⟨Q, 0, none⟩)] u (CbR c v R lo B col u)) :
    Calls Tryz.prog 40 #[.agg #[.int .i64 t.nx, .slice a0 t.pn c0, .slice a1 t.d.n c1, .slice a2 t.d.m c2, .slice a3 t.g.n1 c3, .slice a4 t.g.n2 c4, .slice a5 t.hn c5, .slice a6 t.on c6], .func (Fn.func 122) #[] #[.pointer (some ⟨P, 0, none⟩), .pointer (some ⟨Q, 0, none⟩)]] w (SRes c v R w) := by
  have HA : Hid (InSt w a0 a1 a2 a3 a4 a5 a6 t) := h
  have HS : Hid (SmSt t) := hS
  have HBY : Hid (LogByt t.g) := hby
  have HCB : Hid (stF t = 0 → ∀ (lo : Nat) (col : Nat → Nat) (B : Nat) (u : World), w.heap.size ≤ lo → Below w.heap.size w u → Wk t (cnt (aZ t.g) (t.g.n1 + t.g.n2)) (rvs (aZ t.g) (cnt (aZ t.g) (t.g.n1 + t.g.n2))) lo col B u → Calls Tryz.prog 122 #[.pointer (some ⟨B, 0, none⟩), .pointer (some ⟨P, 0, none⟩), .pointer (some ⟨Q, 0, none⟩)] u (CbR c v R lo B col u)) := hcb
  have HBAD : Hid (stF t ≠ 0 → c = stF t ∧ v = 0 ∧ R = zSt) := hbad
  have HZ : Hid (c ≠ 0 → v = 0 ∧ R = zSt) := hz
  have hmf : ∀ (fn : Fn) (first cap : Array Value) (w : World), (Instr.makeFunc fn first cap).run Tryz.prog w = .ok (.func fn first cap) w := fun _ _ _ _ => rfl
  clear h hS hby hcb hbad hz
  go_enter_defers Tryz.func40, Tryz.ntmps40
  go_wp2_with fail
  obtain ⟨W, hW⟩ : ∃ x, x = (w.alloc (.cells #[.int .i64 t.nx, .slice a0 t.pn c0, .slice a1 t.d.n c1, .slice a2 t.d.m c2, .slice a3 t.g.n1 c3, .slice a4 t.g.n2 c4, .slice a5 t.hn c5, .slice a6 t.on c6] 42)).alloc (.cells #[.int .i64 0, .int .i64 0, .int .i64 0, .slice none 0 0, .slice none 0 0, .slice none 0 0, .slice none 0 0, .slice none 0 0, .slice none 0 0, .slice none 0 0] 44) := ⟨_, rfl⟩
  have HBW : Hid (Below w.heap.size w W) := by rw [hW]; exact ((Below.refl _ _).alloc (Nat.le_refl _) _).alloc (by simp) _
  have HWS : Hid (W.heap.size = w.heap.size + 2) := by rw [hW]; simp [Hid]
  have HBX : Hid (BoxS W w.heap.size (.int .i64 t.nx) (.slice a0 t.pn c0) (.slice a1 t.d.n c1) (.slice a2 t.d.m c2) (.slice a3 t.g.n1 c3) (.slice a4 t.g.n2 c4) (.slice a5 t.hn c5) (.slice a6 t.on c6)) := by rw [hW]; exact (BoxS.new _ _ _ _ _ _ _ _ _ _).alloc _
  have HB10 : Hid (Bx10 W (w.heap.size + 1) 0 0 (.int .i64 0) (.slice none 0 0) (.slice none 0 0) (.slice none 0 0) (.slice none 0 0) (.slice none 0 0) (.slice none 0 0) (.slice none 0 0)) := by rw [hW]; simp [Hid, Bx10, go_sem]
  have HBF : Hid (∀ i, W.frozen? ⟨w.heap.size + 1, i, none⟩ = false) := fun i => by rw [hW]; simp [go_sem]
  rw [← hW]
  clear hW
  refine (implStf_any t a0 c0 a1 c1 a2 c2 a3 c3 a4 c4 a5 c5 a6 c6 W HS.out HBY.out (HA.out.below HBW.out)).mono ?_
  rintro e w1 ⟨rfl, hb1⟩
  have HB1 : Hid (Below W.heap.size W w1) := hb1
  have e1 : w1.heap[w.heap.size + 1]? = W.heap[w.heap.size + 1]? := hb1.block _ (by have := HWS.out; omega)
  by_cases hst : stF t = 0
  · have HST : Hid (stF t = 0) := hst
    rw [hst]
    have l1 := HBX.out.below hb1
    obtain ⟨x0, x1, x2, x3, x4, x5, x6, x7⟩ := l1
    have HC1 : Hid (Bx10 w1 (w.heap.size + 1) 0 0 (.int .i64 0) (.slice none 0 0) (.slice none 0 0) (.slice none 0 0) (.slice none 0 0) (.slice none 0 0) (.slice none 0 0) (.slice none 0 0) ∧ ∀ i, w1.frozen? ⟨w.heap.size + 1, i, none⟩ = false) := ⟨HB10.out.block e1, fun i => (frozB e1).trans (HBF.out i)⟩
    clear hb1 e1 hst
    go_wp2_with fail
    refine (workOn_any t a0 c0 a1 c1 a2 c2 a3 c3 a4 c4 a5 c5 a6 c6 w1 HS.out (stF_good HST.out) HBY.out ((HA.out.below HBW.out).below HB1.out)).mono ?_
    rintro e w2 hwr
    obtain ⟨B, col, rfl, hb2, hk2⟩ := WRes.wk hwr
    clear hwr x0 x1 x2 x3 x4 x5 x6 x7
    have HB2 : Hid (Below w1.heap.size w1 w2) := hb2
    have HW1 : Hid (w.heap.size + 2 ≤ w1.heap.size) := by have := HWS.out; have := HB1.out.size; show _ ≤ _; omega
    have e2 : w2.heap[w.heap.size + 1]? = w1.heap[w.heap.size + 1]? := hb2.block _ (by have := HW1.out; omega)
    have HC2 : Hid (Bx10 w2 (w.heap.size + 1) 0 0 (.int .i64 0) (.slice none 0 0) (.slice none 0 0) (.slice none 0 0) (.slice none 0 0) (.slice none 0 0) (.slice none 0 0) (.slice none 0 0) ∧ ∀ i, w2.frozen? ⟨w.heap.size + 1, i, none⟩ = false) := ⟨HC1.out.1.block e2, fun i => (frozB e2).trans (HC1.out.2 i)⟩
    have HK2 : Hid (Wk t (cnt (aZ t.g) (t.g.n1 + t.g.n2)) (rvs (aZ t.g) (cnt (aZ t.g) (t.g.n1 + t.g.n2))) w1.heap.size col B w2) := hk2
    have HBw : Hid (Below w.heap.size w w2) := below_then (below_then HBW.out HB1.out) hb2
    clear hb2 hk2 e2
    go_wp2_with fail
    refine (HCB.out HST.out w1.heap.size col B w2 (by have := HW1.out; omega) HBw.out HK2.out).mono ?_
    rintro e w3 ⟨vv, R1, n1, xs1, col1, rfl, hc3, hcc3, hf3, hk3⟩
    have HF3 : Hid (WkF col B w2 w3) := hf3
    have HK3 : Hid (Wk R1 n1 xs1 w1.heap.size col1 B w3) := hk3
    have HC3 : Hid (c = 0 → vv = v ∧ R1 = R) := hc3
    have e3 : w3.heap[w.heap.size + 1]? = w2.heap[w.heap.size + 1]? := hf3.block _ (by have := HBw.out.size; have := HW1.out; have := HB2.out.size; omega) (fun q => by
      obtain ⟨y1, y2, y3⟩ := HK2.out.lt
      have := HW1.out
      rcases q with q | q
      · omega
      · have := (y3 _ q).1; omega)
    have HD3 : Hid (Bx10 w3 (w.heap.size + 1) 0 0 (.int .i64 0) (.slice none 0 0) (.slice none 0 0) (.slice none 0 0) (.slice none 0 0) (.slice none 0 0) (.slice none 0 0) (.slice none 0 0) ∧ ∀ i, w3.frozen? ⟨w.heap.size + 1, i, none⟩ = false) := ⟨HC2.out.1.block e3, fun i => (frozB e3).trans (HC2.out.2 i)⟩
    have HBw3 : Hid (Below w.heap.size w w3) := ⟨hf3.os.trans HBw.out.os, hf3.tape.trans HBw.out.tape, hf3.output.trans HBw.out.output, Nat.le_trans HBw.out.size hf3.size, fun x hx => (hf3.block x (by have := HBw.out.size; omega) (fun q => by
      obtain ⟨y1, y2, y3⟩ := HK2.out.lt
      have := HW1.out
      rcases q with q | q
      · omega
      · have := (y3 _ q).1; omega)).trans (HBw.out.block x hx)⟩
    have HS3 : Hid (w.heap.size + 2 ≤ w3.heap.size) := by have := HW1.out; have := HB2.out.size; have := hf3.size; show _ ≤ _; omega
    clear hc3 hcc3 hf3 hk3 e3
    go_upto_region 7 with fail
    obtain ⟨U, hU⟩ : ∃ x, x = w3.alloc (.cells #[.int .i64 c, .int .i64 vv] 77) := ⟨_, rfl⟩
    have HU : Hid (Below w3.heap.size w3 U) := by rw [hU]; exact below_new _ _
    have U2 : Box2 U w3.heap.size (.int .i64 c) (.int .i64 vv) := by rw [hU]; exact Box2.new _ _ _ _
    rw [← hU]
    clear hU
    have HKU : Hid (Wk R1 n1 xs1 w1.heap.size col1 B U) := HK3.out.below HU.out
    obtain ⟨d0, f0, d1, f1, d2, f2, d3, f3, d4, f4, d5, f5, d6, f6, ra1, rc1, hlo1, hbx1, -, -, -, -, hpc1, -⟩ := HKU.out
    have HOS : Hid (OwnS U w1.heap.size U.heap.size d0 d1 d2 d3 d4 d5 d6 R1) := hpc1.own
    have HDU : Hid (Bx10 U (w.heap.size + 1) 0 0 (.int .i64 0) (.slice none 0 0) (.slice none 0 0) (.slice none 0 0) (.slice none 0 0) (.slice none 0 0) (.slice none 0 0) (.slice none 0 0) ∧ ∀ i, U.frozen? ⟨w.heap.size + 1, i, none⟩ = false) := by
      have e4 : U.heap[w.heap.size + 1]? = w3.heap[w.heap.size + 1]? := HU.out.block _ (by have := HS3.out; omega)
      exact ⟨HD3.out.1.block e4, fun i => (frozB e4).trans (HD3.out.2 i)⟩
    clear hpc1
    refine wp_region_E 9 (S := fun u => (Box2 u w3.heap.size (.int .i64 c) (.int .i64 vv) ∧ BoxS u B (.int .i64 R1.nx) (.slice d0 R1.pn f0) (.slice d1 R1.d.n f1) (.slice d2 R1.d.m f2) (.slice d3 R1.g.n1 f3) (.slice d4 R1.g.n2 f4) (.slice d5 R1.hn f5) (.slice d6 R1.on f6)) ∧ Bx10 u (w.heap.size + 1) 0 0 (.int .i64 0) (.slice none 0 0) (.slice none 0 0) (.slice none 0 0) (.slice none 0 0) (.slice none 0 0) (.slice none 0 0) (.slice none 0 0) ∧ ∀ i, u.frozen? ⟨w.heap.size + 1, i, none⟩ = false) (by kernel_rfl) ⟨⟨U2.below ((Below.refl _ _).drew), hbx1.below ((Below.refl _ _).drew)⟩, HDU.out.1.block rfl, HDU.out.2⟩ (fun hS => ?_)
    obtain ⟨y0, hy0⟩ : ∃ y, y = U.drew := ⟨_, rfl⟩
    have HUY : Hid (Below U.heap.size U y0) := by rw [hy0]; exact (Below.refl _ _).drew
    rw [← hy0] at hS ⊢
    clear hy0 U2 hbx1
    refine wpAnyE_takeD (L := 9) (i := 0) (v := .pointer (some ⟨w3.heap.size, 0, none⟩)) (some 20) rfl rfl (by kernel_rfl) (by kernel_rfl) (by kernel_rfl) (by kernel_rfl) (turnQ (by decide)) (Or.inl ⟨by kernel_rfl, by intro u hSu; go_simp⟩) hS ?_
    try simp only [Act.put, List.setIfInBounds_toArray, List.set_cons_zero, List.set_cons_succ]
    refine wpAnyE_takeD (L := 9) (i := 1) (v := .int .i64 c) (some 21) rfl rfl (by kernel_rfl) (by kernel_rfl) (by kernel_rfl) (by kernel_rfl) (turnQ (by decide)) (Or.inl ⟨by kernel_rfl, by intro u hSu; obtain ⟨⟨⟨p0, p1⟩, -⟩, -⟩ := hSu; go_simp⟩) hS ?_
    try simp only [Act.put, List.setIfInBounds_toArray, List.set_cons_zero, List.set_cons_succ]
    refine wpAnyE_takeD (L := 9) (i := 2) (v := .pointer (some ⟨w3.heap.size, 1, none⟩)) (some 22) rfl rfl (by kernel_rfl) (by kernel_rfl) (by kernel_rfl) (by kernel_rfl) (turnQ (by decide)) (Or.inl ⟨by kernel_rfl, by intro u hSu; go_simp⟩) hS ?_
    try simp only [Act.put, List.setIfInBounds_toArray, List.set_cons_zero, List.set_cons_succ]
    refine wpAnyE_takeD (L := 9) (i := 3) (v := .int .i64 vv) (some 23) rfl rfl (by kernel_rfl) (by kernel_rfl) (by kernel_rfl) (by kernel_rfl) (turnQ (by decide)) (Or.inl ⟨by kernel_rfl, by intro u hSu; obtain ⟨⟨⟨p0, p1⟩, -⟩, -⟩ := hSu; go_simp⟩) hS ?_
    try simp only [Act.put, List.setIfInBounds_toArray, List.set_cons_zero, List.set_cons_succ]
    refine wpAnyE_takeD (L := 9) (i := 4) (v := .pointer (some ⟨B, 0, none⟩)) (some 24) rfl rfl (by kernel_rfl) (by kernel_rfl) (by kernel_rfl) (by kernel_rfl) (turnQ (by decide)) (Or.inl ⟨by kernel_rfl, by intro u hSu; go_simp⟩) hS ?_
    try simp only [Act.put, List.setIfInBounds_toArray, List.set_cons_zero, List.set_cons_succ]
    refine wpAnyE_takeD (L := 9) (i := 5) (v := .pointer (some ⟨B, 0, none⟩)) (some 25) rfl rfl (by kernel_rfl) (by kernel_rfl) (by kernel_rfl) (by kernel_rfl) (turnQ (by decide)) (Or.inl ⟨by kernel_rfl, by intro u hSu; go_simp⟩) hS ?_
    try simp only [Act.put, List.setIfInBounds_toArray, List.set_cons_zero, List.set_cons_succ]
    refine wpAnyE_takeD (L := 9) (i := 6) (v := .pointer (some ⟨B, 0, none⟩)) (some 26) rfl rfl (by kernel_rfl) (by kernel_rfl) (by kernel_rfl) (by kernel_rfl) (turnQ (by decide)) (Or.inl ⟨by kernel_rfl, by intro u hSu; go_simp⟩) hS ?_
    try simp only [Act.put, List.setIfInBounds_toArray, List.set_cons_zero, List.set_cons_succ]
    refine wpAnyE_takeD (L := 9) (i := 7) (v := .agg #[.int .i64 R1.nx, .slice d0 R1.pn f0, .slice d1 R1.d.n f1, .slice d2 R1.d.m f2, .slice d3 R1.g.n1 f3, .slice d4 R1.g.n2 f4, .slice d5 R1.hn f5, .slice d6 R1.on f6]) (some 27) rfl rfl (by kernel_rfl) (by kernel_rfl) (by kernel_rfl) (by kernel_rfl) (turnQ (by decide)) (Or.inl ⟨by kernel_rfl, by intro u hSu; obtain ⟨⟨-, h0, h1, h2, h3, h4, h5, h6, h7⟩, -⟩ := hSu; go_simp⟩) hS ?_
    try simp only [Act.put, List.setIfInBounds_toArray, List.set_cons_zero, List.set_cons_succ]
    refine wpAnyE_takeD (L := 9) (i := 8) (v := .agg #[.int .i64 c, .int .i64 vv, .int .i64 R1.nx, .slice d0 R1.pn f0, .slice d1 R1.d.n f1, .slice d2 R1.d.m f2, .slice d3 R1.g.n1 f3, .slice d4 R1.g.n2 f4, .slice d5 R1.hn f5, .slice d6 R1.on f6]) (some 28) rfl rfl (by kernel_rfl) (by kernel_rfl) (by kernel_rfl) (by kernel_rfl) (turnQ (by decide)) (Or.inl ⟨by kernel_rfl, by intro u hSu; go_simp⟩) hS ?_
    try simp only [Act.put, List.setIfInBounds_toArray, List.set_cons_zero, List.set_cons_succ]
    have hT := hS
    obtain ⟨-, ⟨r0, r1, r2, r3, r4, r5, r6, r7, r8, r9⟩, rf9⟩ := hT
    refine wpAnyE_ready (rs := [9]) (by kernel_rfl) (by simp) ?_
    refine AllReadyE.last rfl (fun K9 hK => ?_)
    go_simp
    refine hK.out _ _ ?_
    try simp only [Act.put, List.setIfInBounds_toArray, List.set_cons_zero, List.set_cons_succ]
    clear hK K9 hS
    refine wpAnyE_done (by kernel_rfl) ?_ _
    go_simp
    obtain ⟨Z, hZ⟩ : ∃ x, x = ((((((((((y0.setCell ⟨w.heap.size + 1, 0, none⟩ (.int .i64 c)).setCell ⟨w.heap.size + 1, 1, none⟩ (.int .i64 vv)).setCell ⟨w.heap.size + 1, 2, none⟩ (.int .i64 R1.nx)).setCell ⟨w.heap.size + 1, 3, none⟩ (.slice d0 R1.pn f0)).setCell ⟨w.heap.size + 1, 4, none⟩ (.slice d1 R1.d.n f1)).setCell ⟨w.heap.size + 1, 5, none⟩ (.slice d2 R1.d.m f2)).setCell ⟨w.heap.size + 1, 6, none⟩ (.slice d3 R1.g.n1 f3)).setCell ⟨w.heap.size + 1, 7, none⟩ (.slice d4 R1.g.n2 f4)).setCell ⟨w.heap.size + 1, 8, none⟩ (.slice d5 R1.hn f5)).setCell ⟨w.heap.size + 1, 9, none⟩ (.slice d6 R1.on f6)) := ⟨_, rfl⟩
    have HZW : Hid (Writes (w.heap.size + 1) (w.heap.size + 2) y0 Z) := by rw [hZ]; exact ((((((((((Writes.refl _ _ _).setCell (p := ⟨w.heap.size + 1, 0, none⟩) (Nat.le_refl _) (Nat.lt_succ_self _) _).setCell (p := ⟨w.heap.size + 1, 1, none⟩) (Nat.le_refl _) (Nat.lt_succ_self _) _).setCell (p := ⟨w.heap.size + 1, 2, none⟩) (Nat.le_refl _) (Nat.lt_succ_self _) _).setCell (p := ⟨w.heap.size + 1, 3, none⟩) (Nat.le_refl _) (Nat.lt_succ_self _) _).setCell (p := ⟨w.heap.size + 1, 4, none⟩) (Nat.le_refl _) (Nat.lt_succ_self _) _).setCell (p := ⟨w.heap.size + 1, 5, none⟩) (Nat.le_refl _) (Nat.lt_succ_self _) _).setCell (p := ⟨w.heap.size + 1, 6, none⟩) (Nat.le_refl _) (Nat.lt_succ_self _) _).setCell (p := ⟨w.heap.size + 1, 7, none⟩) (Nat.le_refl _) (Nat.lt_succ_self _) _).setCell (p := ⟨w.heap.size + 1, 8, none⟩) (Nat.le_refl _) (Nat.lt_succ_self _) _).setCell (p := ⟨w.heap.size + 1, 9, none⟩) (Nat.le_refl _) (Nat.lt_succ_self _) _
    have HZB : Hid (Bx10 Z (w.heap.size + 1) c vv (.int .i64 R1.nx) (.slice d0 R1.pn f0) (.slice d1 R1.d.n f1) (.slice d2 R1.d.m f2) (.slice d3 R1.g.n1 f3) (.slice d4 R1.g.n2 f4) (.slice d5 R1.hn f5) (.slice d6 R1.on f6)) := by
      rw [hZ]
      refine ⟨?_, ?_, ?_, ?_, ?_, ?_, ?_, ?_, ?_, ?_⟩ <;> simp [go_sem, *]
    have HZF : Hid (∀ i, Z.frozen? ⟨w.heap.size + 1, i, none⟩ = false) := fun i => by rw [hZ]; simp only [World.frozen?_setCell]; exact rf9 i
    rw [← hZ]
    clear hZ r0 r1 r2 r3 r4 r5 r6 r7 r8 r9 rf9
    have HBZ : Hid (Below w.heap.size w Z) := HZW.out.below (below_then (below_then HBw3.out HU.out) HUY.out) (by omega)
    have HOZ : Hid (OwnS Z w.heap.size Z.heap.size d0 d1 d2 d3 d4 d5 d6 R1) := (((HOS.out.below HUY.out).writes HZW.out (.inr HW1.out)).wide (by have := HW1.out; omega) (by have := HUY.out.size; have := HZW.out.size; omega) (Nat.le_refl _))
    go_wp2_with fail
    refine leaves_cons (f := 106) (args := #[.pointer (some ⟨w.heap.size + 1, 0, none⟩)]) (by simp) (by simp [go_sem]) ?_
    obtain ⟨r0, r1, r2, r3, r4, r5, r6, r7, r8, r9⟩ := HZB.out
    by_cases hc0 : c = 0
    · obtain ⟨rfl, rfl⟩ := HC3.out hc0
      subst hc0
      refine (turnD_good (w.heap.size + 1) .returning Z r0).mono ?_
      rintro e u' w4 ⟨rfl, rfl, rfl⟩
      refine ⟨.agg #[.int .i64 0, .int .i64 vv, .int .i64 R1.nx, .slice d0 R1.pn f0, .slice d1 R1.d.n f1, .slice d2 R1.d.m f2, .slice d3 R1.g.n1 f3, .slice d4 R1.g.n2 f4, .slice d5 R1.hn f5, .slice d6 R1.on f6], ?_, ?_⟩
      · simp [results, Tryz.results40, go_sem, *]
      · exact ⟨d0, f0, d1, f1, d2, f2, d3, f3, d4, f4, d5, f5, d6, f6, rfl, HBZ.out, HOZ.out⟩
    · obtain ⟨rfl, rfl⟩ := HZ.out hc0
      refine (turnD_bad (w.heap.size + 1) .returning c vv _ _ _ _ _ _ _ _ Z hc0 HZB.out HZF.out).mono ?_
      rintro e u' w4 ⟨rfl, rfl, hw4, hb4⟩
      clear r0 r1 r2 r3 r4 r5 r6 r7 r8 r9
      obtain ⟨r0, r1, r2, r3, r4, r5, r6, r7, r8, r9⟩ := hb4
      refine ⟨.agg #[.int .i64 c, .int .i64 0, .int .i64 0, .slice none 0 0, .slice none 0 0, .slice none 0 0, .slice none 0 0, .slice none 0 0, .slice none 0 0, .slice none 0 0], ?_, ?_⟩
      · simp [results, Tryz.results40, go_sem, *]
      · exact sres_bad (hw4.below HBZ.out (by omega))
  · obtain ⟨rfl, rfl, rfl⟩ := HBAD.out hst
    have HC1 : Hid (Bx10 w1 (w.heap.size + 1) 0 0 (.int .i64 0) (.slice none 0 0) (.slice none 0 0) (.slice none 0 0) (.slice none 0 0) (.slice none 0 0) (.slice none 0 0) (.slice none 0 0)) := HB10.out.block e1
    obtain ⟨r0, r1, r2, r3, r4, r5, r6, r7, r8, r9⟩ := HC1.out
    have rf9 : ∀ i, w1.frozen? ⟨w.heap.size + 1, i, none⟩ = false := fun i => (frozB e1).trans (HBF.out i)
    have hst2 : (stF t != 0) = true := by simp [hst]
    have HBw : Hid (Below w.heap.size w w1) := below_then HBW.out HB1.out
    generalize hcs : stF t = cs at *
    clear hb1 e1 hst HB10 HBAD HCB HZ hcs
    go_wp2_with fail
    refine ⟨.agg #[.int .i64 cs, .int .i64 0, .int .i64 0, .slice none 0 0, .slice none 0 0, .slice none 0 0, .slice none 0 0, .slice none 0 0, .slice none 0 0, .slice none 0 0], ?_, ?_⟩
    · simp [results, Tryz.results40, go_sem, *]
    · refine sres_bad (Writes.below HBw.out (lo := w.heap.size + 1) (hi := w.heap.size + 2) ?_ (by omega))
      repeat (first | with_reducible exact Writes.refl _ _ _ | with_reducible refine Writes.setCell ?_ (by first | omega | (simp <;> omega)) (by first | omega | (simp <;> omega)) _)
set_option maxHeartbeats 8000000 in
theorem open1_openCommit (s : Sto) (n : Nat) (xs : List Value) (lo : Nat) (col : Nat → Nat) (B P Q : Nat) (X : Nat) (x c : Int) (R : Sto) (w : World) (hon : s.on ≤ 100000) (hP : w.cell? ⟨P, 0, none⟩ = some (.int .i64 x)) (hQ : w.cell? ⟨Q, 0, none⟩ = some (.func (Fn.func 58) #[] #[.pointer (some ⟨X, 0, none⟩)])) (H : Wk s n xs lo col B w) (hno : x ∉ ivL s.oF s.on → c = 4)
    (hcb : x ∈ ivL s.oF s.on → ∀ u, Below w.heap.size w u → Calls Tryz.prog 58 #[.pointer (some ⟨B, 0, none⟩), .pointer (some ⟨X, 0, none⟩)] u (CoR c R lo B col u)) :
    Calls Tryz.prog 122 #[.pointer (some ⟨B, 0, none⟩), .pointer (some ⟨P, 0, none⟩), .pointer (some ⟨Q, 0, none⟩)] w (CbR c 0 R lo B col w) := by
  have HWK : Hid (Wk s n xs lo col B w) := H
  have HCB : Hid (x ∈ ivL s.oF s.on → ∀ u, Below w.heap.size w u → Calls Tryz.prog 58 #[.pointer (some ⟨B, 0, none⟩), .pointer (some ⟨X, 0, none⟩)] u (CoR c R lo B col u)) := hcb
  have HNO : Hid (x ∉ ivL s.oF s.on → c = 4) := hno
  have HPP : Hid (w.cell? ⟨P, 0, none⟩ = some (.int .i64 x)) := hP
  have HQQ : Hid (w.cell? ⟨Q, 0, none⟩ = some (.func (Fn.func 58) #[] #[.pointer (some ⟨X, 0, none⟩)])) := hQ
  obtain ⟨k1, k2, k3⟩ := H.lt
  obtain ⟨b0, e0, b1, e1, b2, e2, b3, e3, b4, e4, b5, e5, b6, e6, ra1, rc1, hlo1, hbx1, -, -, -, -, hpc1, -⟩ := H
  have HIN : Hid (IntsAt w b6 s.on s.oF) := hpc1.own.at.2.2.2.2
  have HB7 : Hid (w.cell? ⟨B, 7, none⟩ = some (.slice b6 s.on e6)) := hbx1.2.2.2.2.2.2.2
  have HCN : Hid (∀ (d : Bool) (wv : World), decide (x ∈ ivL s.oF s.on) = d → IntsAt wv b6 s.on s.oF → Calls Tryz.prog 123 #[.slice b6 s.on e6, .int .i64 x] wv fun e w' => e = .returned (.bool d) ∧ w' = wv) := fun d wv hd h => by
    have := containsF_any s.oF s.on b6 e6 x wv hon h
    rw [hd] at this
    exact this
  clear hpc1 hbx1 hP hQ hcb hno
  by_cases hin : x ∈ ivL s.oF s.on
  · have HD : Hid (decide (x ∈ ivL s.oF s.on) = true) := decide_eq_true hin
    have HIX : Hid (x ∈ ivL s.oF s.on) := hin
    clear hin
    go_enter Tryz.func122, Tryz.ntmps122
    go_upto_region 1 with fail
    obtain ⟨W, hW⟩ : ∃ y, y = w.alloc (.cells #[.int .i64 0, .int .i64 0] 77) := ⟨_, rfl⟩
    have HB0 : Hid (Below w.heap.size w W) := by rw [hW]; exact below_new _ _
    have HWB : Hid (Box2 W w.heap.size (.int .i64 0) (.int .i64 0) ∧ (∀ i, W.frozen? ⟨w.heap.size, i, none⟩ = false) ∧ W.heap.size = w.heap.size + 1) := by rw [hW]; exact ⟨Box2.new _ _ _ _, fun i => by simp [go_sem], by simp⟩
    rw [← hW]
    clear hW
    have w7 : W.cell? ⟨B, 7, none⟩ = some (.slice b6 s.on e6) := cell_below HB7.out HB0.out
    have wP : W.cell? ⟨P, 0, none⟩ = some (.int .i64 x) := cell_below HPP.out HB0.out
    have HIW : Hid (IntsAt W b6 s.on s.oF) := HIN.out.below HB0.out
    go_quiet (first | (go_at_call 123; exact Calls.quiet_of_same (HCN.out true _ HD.out (HIW.out.below (below_drewN (Below.refl _ _) _)))))
    obtain ⟨y, hy⟩ : ∃ y, y = W.drewN nq := ⟨_, rfl⟩
    have HYW : Hid (Below W.heap.size W y) := by rw [hy]; exact below_drewN (Below.refl _ _) _
    rw [← hy]
    clear hy w7 wP
    have yQ : y.cell? ⟨Q, 0, none⟩ = some (.func (Fn.func 58) #[] #[.pointer (some ⟨X, 0, none⟩)]) := cell_below (cell_below HQQ.out HB0.out) HYW.out
    have HBY : Hid (Below w.heap.size w y) := below_then HB0.out HYW.out
    go_wp2_with fail
    refine (HCB.out HIX.out y HBY.out).mono ?_
    rintro e w2 ⟨R1, n1, xs1, col1, rfl, hc2, hm2, hf2, hk2⟩
    have eN : w2.heap[w.heap.size]? = y.heap[w.heap.size]? := hf2.block _ (by have := HWB.out.2.2; have := HYW.out.size; omega) (fun q => by
      rcases q with q | q
      · omega
      · have := (k3 _ q).2; omega)
    obtain ⟨z0, z1⟩ := HWB.out.1.below HYW.out
    have z0 : w2.cell? ⟨w.heap.size, 0, none⟩ = some (.int .i64 0) := (cellB eN).trans z0
    have z1 : w2.cell? ⟨w.heap.size, 1, none⟩ = some (.int .i64 0) := (cellB eN).trans z1
    have zf : ∀ i, w2.frozen? ⟨w.heap.size, i, none⟩ = false := fun i => (frozB eN).trans ((HYW.out.frozen (p := ⟨w.heap.size, i, none⟩) (show w.heap.size < W.heap.size by have := HWB.out.2.2; omega)).trans (HWB.out.2.1 i))
    have HEND : Hid (∀ w', Writes w.heap.size (w.heap.size + 1) w2 w' → CbR c 0 R lo B col w (.returned (.agg #[.int .i64 c, .int .i64 0])) w') := fun w' hw => by
      have s1 := HBY.out.size
      have s2 := hf2.size
      refine ⟨0, R1, n1, xs1, col1, rfl, fun h => ⟨rfl, hc2 h⟩, fun v hv q => hm2 v (by omega) q, ⟨hw.os.trans (hf2.os.trans HBY.out.os), hw.tape.trans (hf2.tape.trans HBY.out.tape), hw.output.trans (hf2.output.trans HBY.out.output), by have := hw.size; omega, fun v hv hn => ?_⟩, hk2.keep hw.size fun v hv hl => hw.block v hl ?_⟩
      · rw [hw.block v (by omega) (by omega), hf2.block v (by omega) hn, HBY.out.block v hv]
      · have : v ≠ w.heap.size := fun e => by
          rcases hv with hv | hv
          · omega
          · rw [e] at hv
            have := (k3 _ (hm2 _ (by have := HWB.out.2.2; have := HYW.out.size; omega) hv)).2
            omega
        omega
    clear eN yQ hc2 hm2 hf2 hk2
    go_wp2_with fail
    refine bodyPost_ret (v := .agg #[.int .i64 c, .int .i64 0]) ?_ rfl ?_
    · simp [results, Tryz.results122, go_sem, *]
    refine HEND.out _ ?_
    repeat (first | with_reducible exact Writes.refl _ _ _ | with_reducible refine Writes.setCell ?_ (by first | omega | (simp <;> omega)) (by first | omega | (simp <;> omega)) _)
  · have HD : Hid (decide (x ∈ ivL s.oF s.on) = false) := decide_eq_false hin
    obtain rfl := HNO.out hin
    clear hin
    go_enter Tryz.func122, Tryz.ntmps122
    go_upto_region 1 with fail
    obtain ⟨W, hW⟩ : ∃ y, y = w.alloc (.cells #[.int .i64 0, .int .i64 0] 77) := ⟨_, rfl⟩
    have HB0 : Hid (Below w.heap.size w W) := by rw [hW]; exact below_new _ _
    have HWB : Hid (Box2 W w.heap.size (.int .i64 0) (.int .i64 0) ∧ (∀ i, W.frozen? ⟨w.heap.size, i, none⟩ = false) ∧ W.heap.size = w.heap.size + 1) := by rw [hW]; exact ⟨Box2.new _ _ _ _, fun i => by simp [go_sem], by simp⟩
    rw [← hW]
    clear hW
    have w7 : W.cell? ⟨B, 7, none⟩ = some (.slice b6 s.on e6) := cell_below HB7.out HB0.out
    have wP : W.cell? ⟨P, 0, none⟩ = some (.int .i64 x) := cell_below HPP.out HB0.out
    have HIW : Hid (IntsAt W b6 s.on s.oF) := HIN.out.below HB0.out
    go_quiet (first | (go_at_call 123; exact Calls.quiet_of_same (HCN.out false _ HD.out (HIW.out.below (below_drewN (Below.refl _ _) _)))))
    obtain ⟨y, hy⟩ : ∃ y, y = W.drewN nq := ⟨_, rfl⟩
    have HYW : Hid (Below W.heap.size W y) := by rw [hy]; exact below_drewN (Below.refl _ _) _
    rw [← hy]
    clear hy w7 wP
    obtain ⟨z0, z1⟩ := HWB.out.1.below HYW.out
    have zf : ∀ i, y.frozen? ⟨w.heap.size, i, none⟩ = false := fun i => (HYW.out.frozen (p := ⟨w.heap.size, i, none⟩) (show w.heap.size < W.heap.size by have := HWB.out.2.2; omega)).trans (HWB.out.2.1 i)
    have HEND : Hid (∀ w', Writes w.heap.size (w.heap.size + 1) y w' → CbR 4 0 R lo B col w (.returned (.agg #[.int .i64 4, .int .i64 0])) w') := fun w' hw => CbR.bad (by omega) HWK.out (hw.below (below_then HB0.out HYW.out) (Nat.le_refl _)) 0
    go_wp2_with fail
    refine bodyPost_ret (v := .agg #[.int .i64 4, .int .i64 0]) ?_ rfl ?_
    · simp [results, Tryz.results122, go_sem, *]
    refine HEND.out _ ?_
    repeat (first | with_reducible exact Writes.refl _ _ _ | with_reducible refine Writes.setCell ?_ (by first | omega | (simp <;> omega)) (by first | omega | (simp <;> omega)) _)
set_option maxHeartbeats 8000000 in
theorem openCommit (t : Sto) (a0 : Option Addr) (c0 : Nat) (a1 : Option Addr) (c1 : Nat) (a2 : Option Addr) (c2 : Nat) (a3 : Option Addr) (c3 : Nat) (a4 : Option Addr) (c4 : Nat) (a5 : Option Addr) (c5 : Nat) (a6 : Option Addr) (c6 : Nat) (X : Nat) (x c : Int) (R : Sto) (w : World) (hS : SmSt t) (hby : LogByt t.g) (h : InSt w a0 a1 a2 a3 a4 a5 a6 t) (hbad : stF t ≠ 0 → c = stF t ∧ R = zSt) (hz : c ≠ 0 → R = zSt) (hno : stF t = 0 → x ∉ ivL t.oF t.on → c = 4)
    (hcb : stF t = 0 → x ∈ ivL t.oF t.on → ∀ (lo : Nat) (col : Nat → Nat) (B : Nat) (u : World), w.heap.size ≤ lo → Below w.heap.size w u → Wk t (cnt (aZ t.g) (t.g.n1 + t.g.n2)) (rvs (aZ t.g) (cnt (aZ t.g) (t.g.n1 + t.g.n2))) lo col B u → Calls Tryz.prog 58 #[.pointer (some ⟨B, 0, none⟩), .pointer (some ⟨X, 0, none⟩)] u (CoR c R lo B col u)) :
    Calls Tryz.prog 57 #[.agg #[.int .i64 t.nx, .slice a0 t.pn c0, .slice a1 t.d.n c1, .slice a2 t.d.m c2, .slice a3 t.g.n1 c3, .slice a4 t.g.n2 c4, .slice a5 t.hn c5, .slice a6 t.on c6], .int .i64 x, .func (Fn.func 58) #[] #[.pointer (some ⟨X, 0, none⟩)]] w (SRes c 0 R w) := by
  have HA : Hid (InSt w a0 a1 a2 a3 a4 a5 a6 t) := h
  have HS : Hid (SmSt t) := hS
  have HBY : Hid (LogByt t.g) := hby
  have HCB : Hid (stF t = 0 → x ∈ ivL t.oF t.on → ∀ (lo : Nat) (col : Nat → Nat) (B : Nat) (u : World), w.heap.size ≤ lo → Below w.heap.size w u → Wk t (cnt (aZ t.g) (t.g.n1 + t.g.n2)) (rvs (aZ t.g) (cnt (aZ t.g) (t.g.n1 + t.g.n2))) lo col B u → Calls Tryz.prog 58 #[.pointer (some ⟨B, 0, none⟩), .pointer (some ⟨X, 0, none⟩)] u (CoR c R lo B col u)) := hcb
  have HNO : Hid (stF t = 0 → x ∉ ivL t.oF t.on → c = 4) := hno
  have HBAD : Hid (stF t ≠ 0 → c = stF t ∧ R = zSt) := hbad
  have HZ : Hid (c ≠ 0 → R = zSt) := hz
  have hmf : ∀ (fn : Fn) (first cap : Array Value) (w : World), (Instr.makeFunc fn first cap).run Tryz.prog w = .ok (.func fn first cap) w := fun _ _ _ _ => rfl
  obtain ⟨v, hv⟩ : ∃ v : Int, v = 0 := ⟨0, rfl⟩
  clear h hS hby hcb hno hbad hz
  go_enter Tryz.func57, Tryz.ntmps57
  go_wp2_with fail
  obtain ⟨W, hW⟩ : ∃ y, y = (((w.alloc (.cells #[.int .i64 t.nx, .slice a0 t.pn c0, .slice a1 t.d.n c1, .slice a2 t.d.m c2, .slice a3 t.g.n1 c3, .slice a4 t.g.n2 c4, .slice a5 t.hn c5, .slice a6 t.on c6] 42)).alloc (.cells #[.int .i64 x] 2)).alloc (.cells #[.func (Fn.func 58) #[] #[.pointer (some ⟨X, 0, none⟩)]] 101)).alloc (.cells #[.int .i64 0, .int .i64 0, .int .i64 0, .slice none 0 0, .slice none 0 0, .slice none 0 0, .slice none 0 0, .slice none 0 0, .slice none 0 0, .slice none 0 0] 44) := ⟨_, rfl⟩
  have HBW : Hid (Below w.heap.size w W) := by rw [hW]; repeat (first | with_reducible exact Below.refl _ _ | refine Below.alloc ?_ (by simp <;> omega) _)
  have HWS : Hid (W.heap.size = w.heap.size + 4) := by rw [hW]; simp [Hid]
  have HB10 : Hid (Bx10 W (w.heap.size + 3) 0 0 (.int .i64 0) (.slice none 0 0) (.slice none 0 0) (.slice none 0 0) (.slice none 0 0) (.slice none 0 0) (.slice none 0 0) (.slice none 0 0)) := by rw [hW]; simp [Hid, Bx10, go_sem]
  have HBF : Hid (∀ i, W.frozen? ⟨w.heap.size + 3, i, none⟩ = false) := fun i => by rw [hW]; simp [go_sem]
  have HP : Hid (W.cell? ⟨w.heap.size + 1, 0, none⟩ = some (.int .i64 x)) := by rw [hW]; simp [Hid, go_sem]
  have HQ : Hid (W.cell? ⟨w.heap.size + 2, 0, none⟩ = some (.func (Fn.func 58) #[] #[.pointer (some ⟨X, 0, none⟩)])) := by rw [hW]; simp [Hid, go_sem]
  rw [← hW]
  clear hW
  refine (turnOpen1_any t a0 c0 a1 c1 a2 c2 a3 c3 a4 c4 a5 c5 a6 c6 (w.heap.size + 1) (w.heap.size + 2) c 0 R W HS.out HBY.out (HA.out.below HBW.out) (fun q => ⟨(HBAD.out q).1, rfl, (HBAD.out q).2⟩) (fun q => ⟨rfl, HZ.out q⟩) (fun hst lo col B u hlo hbu hk => ?_)).mono ?_
  · have hG := stF_good hst
    have hon := onF_few hG.nx.2 hG.on
    refine open1_openCommit t _ _ lo col B (w.heap.size + 1) (w.heap.size + 2) X x c R u (by omega) (cell_below HP.out hbu) (cell_below HQ.out hbu) hk (fun hn => HNO.out hst hn) (fun hi u' hb' => ?_)
    exact HCB.out hst hi lo col B u' (by have := HWS.out; omega) (below_then (below_then HBW.out hbu) hb') (hk.below hb')
  rintro e w1 ⟨q0, k0, q1, k1, q2, k2, q3, k3, q4, k4, q5, k5, q6, k6, rfl, hb1, ho1⟩
  have e1 : w1.heap[w.heap.size + 3]? = W.heap[w.heap.size + 3]? := hb1.block _ (by have := HWS.out; omega)
  obtain ⟨r0, r1, r2, r3, r4, r5, r6, r7, r8, r9⟩ := HB10.out.block e1
  have rf9 : ∀ i, w1.frozen? ⟨w.heap.size + 3, i, none⟩ = false := fun i => (frozB e1).trans (HBF.out i)
  have HOW : Hid (OwnS w1 W.heap.size w1.heap.size q0 q1 q2 q3 q4 q5 q6 R) := ho1
  have HB1 : Hid (Below w.heap.size w w1) := below_then HBW.out hb1
  have HEND : Hid (∀ w', Writes (w.heap.size + 3) (w.heap.size + 3 + 1) w1 w' → SRes c 0 R w (.returned (.agg #[.int .i64 c, .int .i64 0, .int .i64 R.nx, .slice q0 R.pn k0, .slice q1 R.d.n k1, .slice q2 R.d.m k2, .slice q3 R.g.n1 k3, .slice q4 R.g.n2 k4, .slice q5 R.hn k5, .slice q6 R.on k6])) w') := fun w' hw => ⟨q0, k0, q1, k1, q2, k2, q3, k3, q4, k4, q5, k5, q6, k6, rfl, hw.below HB1.out (by omega), (HOW.out.writes hw (.inr (by have := HWS.out; omega))).wide (by have := HWS.out; omega) hw.size (Nat.le_refl _)⟩
  clear hb1 ho1 e1
  go_wp2_with fail
  refine bodyPost_ret (v := .agg #[.int .i64 c, .int .i64 0, .int .i64 R.nx, .slice q0 R.pn k0, .slice q1 R.d.n k1, .slice q2 R.d.m k2, .slice q3 R.g.n1 k3, .slice q4 R.g.n2 k4, .slice q5 R.hn k5, .slice q6 R.on k6]) ?_ rfl ?_
  · simp [results, Tryz.results57, go_sem, *]
  · refine HEND.out _ ?_
    repeat (first | with_reducible exact Writes.refl _ _ _ | with_reducible refine Writes.setCell ?_ (by first | omega | (simp <;> omega)) (by first | omega | (simp <;> omega)) _)
/-- What CommitStore answers. -/
def cmC (t : Sto) (x : Int) : Int := if stF t = 0 then (if x ∈ ivL t.oF t.on then c1C t else 4) else stF t
def cmT (t : Sto) (x : Int) : Sto := if cmC t x = 0 then cmS t x else zSt
theorem open_in {t : Sto} {x : Int} (hG : GoodSt t) (h : x ∈ ivL t.oF t.on) : 1 ≤ x ∧ x ≤ 999 := by
  obtain ⟨i, hi, rfl⟩ := (ivL_mem t.oF t.on x).1 h
  have := (onF_good (n := t.on) t.on 0 rfl hG.on i (Nat.zero_le _) hi).1
  have := hG.nx
  omega
set_option maxHeartbeats 8000000 in
theorem implCm_any (t : Sto) (a0 : Option Addr) (c0 : Nat) (a1 : Option Addr) (c1 : Nat) (a2 : Option Addr) (c2 : Nat) (a3 : Option Addr) (c3 : Nat) (a4 : Option Addr) (c4 : Nat) (a5 : Option Addr) (c5 : Nat) (a6 : Option Addr) (c6 : Nat) (x : Int) (w : World) (hS : SmSt t) (hby : LogByt t.g) (h : InSt w a0 a1 a2 a3 a4 a5 a6 t) :
    Calls Tryz.prog 18 #[.agg #[.int .i64 t.nx, .slice a0 t.pn c0, .slice a1 t.d.n c1, .slice a2 t.d.m c2, .slice a3 t.g.n1 c3, .slice a4 t.g.n2 c4, .slice a5 t.hn c5, .slice a6 t.on c6], .int .i64 x] w (SRes (cmC t x) 0 (cmT t x) w) := by
  have HA : Hid (InSt w a0 a1 a2 a3 a4 a5 a6 t) := h
  have HS : Hid (SmSt t) := hS
  have HBY : Hid (LogByt t.g) := hby
  have HNOT : Hid (stF t ≠ 0 → cmC t x = stF t ∧ cmT t x = zSt) := fun q => by
    have e : cmC t x = stF t := if_neg q
    exact ⟨e, if_neg (by rw [e]; exact q)⟩
  have HZ : Hid (cmC t x ≠ 0 → cmT t x = zSt) := fun q => if_neg q
  have HNO : Hid (stF t = 0 → x ∉ ivL t.oF t.on → cmC t x = 4) := fun q1 q2 => by unfold cmC; rw [if_pos q1, if_neg q2]
  have HIN : Hid (stF t = 0 → x ∈ ivL t.oF t.on → cmC t x = c1C t ∧ (cmC t x = 0 → cmT t x = cmS t x)) := fun q1 q2 => ⟨by unfold cmC; rw [if_pos q1, if_pos q2], fun q => if_pos q⟩
  have hmf : ∀ (fn : Fn) (first cap : Array Value) (w : World), (Instr.makeFunc fn first cap).run Tryz.prog w = .ok (.func fn first cap) w := fun _ _ _ _ => rfl
  clear h hS hby
  generalize cmC t x = c at *
  generalize cmT t x = R at *
  go_enter Tryz.func18, Tryz.ntmps18
  go_wp2_with fail
  obtain ⟨W, hW⟩ : ∃ y, y = ((w.alloc (.cells #[.int .i64 t.nx, .slice a0 t.pn c0, .slice a1 t.d.n c1, .slice a2 t.d.m c2, .slice a3 t.g.n1 c3, .slice a4 t.g.n2 c4, .slice a5 t.hn c5, .slice a6 t.on c6] 42)).alloc (.cells #[.int .i64 x] 2)).alloc (.cells #[.int .i64 0, .int .i64 0, .int .i64 0, .slice none 0 0, .slice none 0 0, .slice none 0 0, .slice none 0 0, .slice none 0 0, .slice none 0 0, .slice none 0 0] 44) := ⟨_, rfl⟩
  have HBW : Hid (Below w.heap.size w W) := by rw [hW]; repeat (first | with_reducible exact Below.refl _ _ | refine Below.alloc ?_ (by simp <;> omega) _)
  have HWS : Hid (W.heap.size = w.heap.size + 3) := by rw [hW]; simp [Hid]
  have HB10 : Hid (Bx10 W (w.heap.size + 2) 0 0 (.int .i64 0) (.slice none 0 0) (.slice none 0 0) (.slice none 0 0) (.slice none 0 0) (.slice none 0 0) (.slice none 0 0) (.slice none 0 0)) := by rw [hW]; simp [Hid, Bx10, go_sem]
  have HBF : Hid (∀ i, W.frozen? ⟨w.heap.size + 2, i, none⟩ = false) := fun i => by rw [hW]; simp [go_sem]
  have HP : Hid (W.cell? ⟨w.heap.size + 1, 0, none⟩ = some (.int .i64 x)) := by rw [hW]; simp [Hid, go_sem]
  rw [← hW]
  clear hW
  refine (openCommit t a0 c0 a1 c1 a2 c2 a3 c3 a4 c4 a5 c5 a6 c6 (w.heap.size + 1) x c R W HS.out HBY.out (HA.out.below HBW.out) HNOT.out HZ.out HNO.out (fun hst hi lo col B u hlo hbu hk => ?_)).mono ?_
  · have hG := stF_good hst
    have hq := lgC_short hG.lg
    have hon := onF_few hG.nx.2 hG.on
    refine (commit1_any t _ _ lo col B (w.heap.size + 1) x u hq.1 (open_in hG hi) hG.lg HBY.out (by omega) (by omega) HS.out.2.2.2.1 (cell_below HP.out hbu) hk).mono ?_
    rintro e w' ⟨R', n', xs', col', p1, p2, p3, p4, p5⟩
    obtain ⟨i1, i2⟩ := HIN.out hst hi
    rw [i1]
    exact ⟨R', n', xs', col', p1, fun q => (p2 q).trans (i2 (i1.trans q)).symm, p3, p4, p5⟩
  rintro e w1 ⟨q0, k0, q1, k1, q2, k2, q3, k3, q4, k4, q5, k5, q6, k6, rfl, hb1, ho1⟩
  have e1 : w1.heap[w.heap.size + 2]? = W.heap[w.heap.size + 2]? := hb1.block _ (by have := HWS.out; omega)
  obtain ⟨r0, r1, r2, r3, r4, r5, r6, r7, r8, r9⟩ := HB10.out.block e1
  have rf9 : ∀ i, w1.frozen? ⟨w.heap.size + 2, i, none⟩ = false := fun i => (frozB e1).trans (HBF.out i)
  have HOW : Hid (OwnS w1 W.heap.size w1.heap.size q0 q1 q2 q3 q4 q5 q6 R) := ho1
  have HB1 : Hid (Below w.heap.size w w1) := below_then HBW.out hb1
  have HEND : Hid (∀ w', Writes (w.heap.size + 2) (w.heap.size + 2 + 1) w1 w' → SRes c 0 R w (.returned (.agg #[.int .i64 c, .int .i64 0, .int .i64 R.nx, .slice q0 R.pn k0, .slice q1 R.d.n k1, .slice q2 R.d.m k2, .slice q3 R.g.n1 k3, .slice q4 R.g.n2 k4, .slice q5 R.hn k5, .slice q6 R.on k6])) w') := fun w' hw => ⟨q0, k0, q1, k1, q2, k2, q3, k3, q4, k4, q5, k5, q6, k6, rfl, hw.below HB1.out (by omega), (HOW.out.writes hw (.inr (by have := HWS.out; omega))).wide (by have := HWS.out; omega) hw.size (Nat.le_refl _)⟩
  clear hb1 ho1 e1
  go_wp2_with fail
  refine bodyPost_ret (v := .agg #[.int .i64 c, .int .i64 0, .int .i64 R.nx, .slice q0 R.pn k0, .slice q1 R.d.n k1, .slice q2 R.d.m k2, .slice q3 R.g.n1 k3, .slice q4 R.g.n2 k4, .slice q5 R.hn k5, .slice q6 R.on k6]) ?_ rfl ?_
  · simp [results, Tryz.results18, go_sem, *]
  · refine HEND.out _ ?_
    repeat (first | with_reducible exact Writes.refl _ _ _ | with_reducible refine Writes.setCell ?_ (by first | omega | (simp <;> omega)) (by first | omega | (simp <;> omega)) _)
/-- A store whose log, open ones and held ones are made anew. -/
theorem OwnS.three {w : World} {lo hi l h l' M h' : Nat} {a0 a1 a2 a3 a4 a5 a6 b3 b4 b5 b6 : Option Addr} {t : Sto} {g : Lo} {n m : Nat} {F K V : Nat → Int} (nx : Int) (H : OwnS w lo hi a0 a1 a2 a3 a4 a5 a6 t) (hlo : lo ≤ hi) (h1 : hi ≤ l) (hlh : l ≤ h) (hg : OwnG w l h b3 b4 g) (h2 : h ≤ l') (h3 : l' ≤ M) (ho : OwnI w l' M b6 n F) (h4 : M ≤ h') (hh : Own w M h' b5 m K V) :
    OwnS w lo w.heap.size a0 a1 a2 b3 b4 b5 b6 ⟨nx, t.pn, t.pT, t.d, g, m, K, V, n, F⟩ := by
  obtain ⟨h0, col, hc, p1, ⟨l2, u2, g2, p2⟩, -, -, -⟩ := H
  have hhg := hg.1
  have hho := ho.1
  have hhh := hh.1
  have old : ∀ x j, j ≠ 0 → col x = j → colr (colr (colr col l h 3) l' M 5) M h' 4 x = j := fun x j hj e => by
    have hx := (hc x (by omega)).2
    rw [colr_old (by omega), colr_old (by omega), colr_old (by omega)]
    exact e
  refine ⟨Nat.le_refl _, colr (colr (colr col l h 3) l' M 5) M h' 4, fun x hx => ?_, p1.mono fun x hx => old x 1 (by omega) hx, ⟨l2, u2, fun x x1 x2 => old x 2 (by omega) (g2 x x1 x2), p2⟩, ⟨l, h, fun x x1 x2 => by rw [colr_old (by omega), colr_old (by omega)]; exact colr_new x1 x2, hg⟩, ⟨M, h', fun x x1 x2 => colr_new x1 x2, hh⟩, ⟨l', M, fun x x1 x2 => by rw [colr_old (by omega)]; exact colr_new x1 x2, ho⟩⟩
  by_cases q : M ≤ x ∧ x < h'
  · omega
  · unfold colr at hx
    rw [if_neg q] at hx
    by_cases q1 : l' ≤ x ∧ x < M
    · omega
    · rw [if_neg q1] at hx
      by_cases q2 : l ≤ x ∧ x < h
      · omega
      · rw [if_neg q2] at hx
        have := hc x hx
        omega
set_option maxHeartbeats 16000000 in
theorem specCm_st (t : Sto) (a0 : Option Addr) (c0 : Nat) (a1 : Option Addr) (c1 : Nat) (a2 : Option Addr) (c2 : Nat) (a3 : Option Addr) (c3 : Nat) (a4 : Option Addr) (c4 : Nat) (a5 : Option Addr) (c5 : Nat) (a6 : Option Addr) (c6 : Nat) (x : Int) (w : World) (hS : SmSt t) (hby : LogByt t.g) (h : InSt w a0 a1 a2 a3 a4 a5 a6 t) :
    Calls Tryz.prog 17 #[.agg #[.int .i64 t.nx, .slice a0 t.pn c0, .slice a1 t.d.n c1, .slice a2 t.d.m c2, .slice a3 t.g.n1 c3, .slice a4 t.g.n2 c4, .slice a5 t.hn c5, .slice a6 t.on c6], .int .i64 x] w (SRes (cmC t x) 0 (cmT t x) w) := by
  have HA : Hid (InSt w a0 a1 a2 a3 a4 a5 a6 t) := h
  have HS : Hid (SmSt t) := hS
  have HBY : Hid (LogByt t.g) := hby
  have HC0 : Hid (cmC t x = if stF t = 0 then (if x ∈ ivL t.oF t.on then c1C t else 4) else stF t) := rfl
  have HBD : Hid (∀ c, cmC t x = c → c ≠ 0 → cmT t x = zSt) := fun c h h0 => if_neg (by rw [h]; exact h0)
  have HGO : Hid (cmC t x = 0 → cmT t x = cmS t x) := fun h => if_pos h
  have hb0 : ∀ o1 o2, Below w.heap.size w ((w.alloc o1).alloc o2) := fun o1 o2 => (((Below.refl _ _).alloc (Nat.le_refl _) _).alloc (by simp) _)
  generalize cmC t x = C at *
  generalize cmT t x = TT at *
  clear h
  go_enter Tryz.func17, Tryz.ntmps17
  go_wp2_with fail
  refine (l12Fault_any t w.heap.size a0 c0 a1 c1 a2 c2 a3 c3 a4 c4 a5 c5 a6 c6 _ hS hby ((BoxS.new w _ _ _ _ _ _ _ _ _).alloc _) (HA.out.below (hb0 _ _))).mono ?_
  rintro e w1 ⟨rfl, hb⟩
  have HB : Hid (Below w.heap.size w w1) := below_then (hb0 _ _) hb
  have HX : Hid (BoxS w1 w.heap.size (.int .i64 t.nx) (.slice a0 t.pn c0) (.slice a1 t.d.n c1) (.slice a2 t.d.m c2) (.slice a3 t.g.n1 c3) (.slice a4 t.g.n2 c4) (.slice a5 t.hn c5) (.slice a6 t.on c6)) := ((BoxS.new w _ _ _ _ _ _ _ _ _).alloc _).below hb
  have HZ : Hid (ZR w1 (w.heap.size + 1)) := by
    have := (ZR.new (w.alloc (.cells #[.int .i64 t.nx, .slice a0 t.pn c0, .slice a1 t.d.n c1, .slice a2 t.d.m c2, .slice a3 t.g.n1 c3, .slice a4 t.g.n2 c4, .slice a5 t.hn c5, .slice a6 t.on c6] 42)) 44).below hb
    rw [World.size_alloc] at this
    exact this
  replace HA : Hid (InSt w1 a0 a1 a2 a3 a4 a5 a6 t) := HA.out.below HB.out
  have HZ0 : Hid (w.heap.size + 1 < w1.heap.size) := HZ.out.lt
  clear hb hb0 hS hby
  by_cases h0 : stF t = 0
  case neg =>
    have HC : Hid (C = stF t) := HC0.out.trans (if_neg h0)
    have HT : Hid (TT = zSt) := HBD.out _ HC.out h0
    generalize stF t = c at *
    have h0' : (c != 0) = true := by simp [h0]
    clear h0 HC0
    go_wp2_with fail
    refine (l12Bad_any c _).mono ?_
    rintro e w2 ⟨rfl, hb2⟩
    obtain ⟨⟨r0, r1, r2, r3, r4, r5, r6, r7, r8, r9⟩, rf⟩ := HZ.out.below hb2
    have HB9 : Hid (Below w.heap.size w w2) := below_then HB.out hb2
    have hl9 : w.heap.size + 1 < w2.heap.size := Go.block_lt_of_cell r0
    clear hb2
    go_wp2_with fail
    refine bodyPost_ret (v := .agg #[.int .i64 c, .int .i64 0, .int .i64 0, .slice none 0 0, .slice none 0 0, .slice none 0 0, .slice none 0 0, .slice none 0 0, .slice none 0 0, .slice none 0 0]) (by simp [results, Tryz.results17, go_sem, *]) rfl ?_
    rw [HC.out, HT.out]
    refine sres_bad ?_
    repeat (first | with_reducible exact HB9.out | refine Below.setCell ?_ (by first | omega | (simp <;> omega)) _)

  replace HC0 : Hid (C = _) := HC0.out.trans (if_pos h0)
  have HGD : Hid (GoodSt t) := stF_good h0
  rw [h0]
  clear h0
  obtain ⟨x0, x1, x2, x3, x4, x5, x6, x7⟩ := HX.out
  have HON : Hid (t.on ≤ 90000) := by have := onF_few HGD.out.nx.2 HGD.out.on; show _ ≤ _; omega
  go_wp2_with fail
  refine (l1HasF_any t.oF t.on a6 c6 x w1 (by have := HON.out; omega) HA.out.2.2.2.2).mono ?_
  rintro e w1' ⟨rfl, hw1⟩
  subst hw1
  by_cases hin : x ∈ ivL t.oF t.on
  case neg =>
    have HC : Hid (C = 4) := HC0.out.trans (if_neg hin)
    have HT : Hid (TT = zSt) := HBD.out _ HC.out (by omega)
    rw [decide_eq_false hin]
    clear hin HC0
    go_wp2_with fail
    refine (l12Bad_any 4 _).mono ?_
    rintro e w2 ⟨rfl, hb2⟩
    obtain ⟨⟨r0, r1, r2, r3, r4, r5, r6, r7, r8, r9⟩, rf⟩ := HZ.out.below hb2
    have HB9 : Hid (Below w.heap.size w w2) := below_then HB.out hb2
    have hl9 : w.heap.size + 1 < w2.heap.size := Go.block_lt_of_cell r0
    clear hb2
    go_wp2_with fail
    refine bodyPost_ret (v := .agg #[.int .i64 4, .int .i64 0, .int .i64 0, .slice none 0 0, .slice none 0 0, .slice none 0 0, .slice none 0 0, .slice none 0 0, .slice none 0 0, .slice none 0 0]) (by simp [results, Tryz.results17, go_sem, *]) rfl ?_
    rw [HC.out, HT.out]
    refine sres_bad ?_
    repeat (first | with_reducible exact HB9.out | refine Below.setCell ?_ (by first | omega | (simp <;> omega)) _)

  replace HC0 : Hid (C = c1C t) := HC0.out.trans (if_pos hin)
  have HXX : Hid (1 ≤ x ∧ x ≤ 999) := open_in HGD.out hin
  rw [decide_eq_true hin]
  clear hin
  go_wp2_with fail
  refine (l12Copy_any t a0 c0 a1 c1 a2 c2 a3 c3 a4 c4 a5 c5 a6 c6 w1' HS.out HGD.out HA.out).mono ?_
  rintro e w2 ⟨b0, e0, b1, e1, b2, e2, b3, e3, b4, e4, b5, e5, b6, e6, rfl, hb2, hown, hc0, hc5, hc6⟩
  obtain ⟨W3, hW3⟩ : ∃ y, y = w2.alloc (.cells #[.int .i64 t.nx, .slice b0 t.pn e0, .slice b1 t.d.n e1, .slice b2 t.d.m e2, .slice b3 t.g.n1 e3, .slice b4 t.g.n2 e4, .slice b5 t.hn e5, .slice b6 t.on e6] 42) := ⟨_, rfl⟩
  have hb3 : Below w2.heap.size w2 W3 := by rw [hW3]; exact below_new _ _
  have HBX : Hid (BoxS W3 w2.heap.size (.int .i64 t.nx) (.slice b0 t.pn e0) (.slice b1 t.d.n e1) (.slice b2 t.d.m e2) (.slice b3 t.g.n1 e3) (.slice b4 t.g.n2 e4) (.slice b5 t.hn e5) (.slice b6 t.on e6)) := by rw [hW3]; exact BoxS.new _ _ _ _ _ _ _ _ _ _
  have HFX : Hid (∀ i, W3.frozen? ⟨w2.heap.size, i, none⟩ = false) := fun i => by rw [hW3]; simp [go_sem]
  have hs3 : W3.heap.size = w2.heap.size + 1 := by rw [hW3]; simp
  have HOW : Hid (OwnS W3 w1'.heap.size w2.heap.size b0 b1 b2 b3 b4 b5 b6 t) := hown.below hb3
  have HB3 : Hid (Below w1'.heap.size w1' W3) := below_then hb2 hb3
  have hs2 := hb2.size
  clear hown hb2 hb3 hc0 hc5 hc6 x0 x1 x2 x3 x4 x5 x6 x7
  go_upto_region 7 with fail
  rw [← hW3]
  clear hW3
  have HRF : Hid (rf 3 x 0 false 0 false 0 0 = 0) := rf_end (.inl rfl) HXX.out
  have HRR : Hid (GoodR 3 x 0 false 0 false 0 0) := goodR_of 3 x 0 false 0 false 0 0 HRF.out
  have HLE : Hid (t.g.n1 + t.g.n2 ≤ 4000) := (lgC_short HGD.out.lg).1
  go_wp2_with fail
  refine (l12Log_any t.g w2.heap.size _ _ _ _ _ _ b3 b4 e3 e4 3 x 0 false 0 false 0 0 W3 HLE.out HRR.out HBX.out HFX.out HOW.out.at.2.2.1).mono ?_
  rintro e w4 (⟨hgt, rfl, hb4⟩ | ⟨hle, rfl, w0, y1, f1, y2, f2, hb4, hog, rfl⟩)
  · have HC : Hid (C = 2) := HC0.out.trans (if_neg (by omega))
    have HT : Hid (TT = zSt) := HBD.out _ HC.out (by omega)
    have HB4 : Hid (Below w1'.heap.size w1' w4) := below_then HB3.out hb4
    replace HZ : Hid (ZR w4 (w.heap.size + 1)) := HZ.out.below HB4.out
    replace HB : Hid (Below w.heap.size w w4) := below_then HB.out HB4.out
    clear hb4 HC0
    go_wp2_with fail
    refine (l12Bad_any 2 _).mono ?_
    rintro e w5 ⟨rfl, hb5⟩
    obtain ⟨⟨r0, r1, r2, r3, r4, r5, r6, r7, r8, r9⟩, rf⟩ := HZ.out.below hb5
    have HB9 : Hid (Below w.heap.size w w5) := below_then HB.out hb5
    have hl9 : w.heap.size + 1 < w5.heap.size := Go.block_lt_of_cell r0
    clear hb5
    go_wp2_with fail
    refine bodyPost_ret (v := .agg #[.int .i64 2, .int .i64 0, .int .i64 0, .slice none 0 0, .slice none 0 0, .slice none 0 0, .slice none 0 0, .slice none 0 0, .slice none 0 0, .slice none 0 0]) (by simp [results, Tryz.results17, go_sem, *]) rfl ?_
    rw [HC.out, HT.out]
    refine sres_bad ?_
    repeat (first | with_reducible exact HB9.out | refine Below.setCell ?_ (by first | omega | (simp <;> omega)) _)

  have HC : Hid (C = 0) := HC0.out.trans (if_pos (by omega))
  have HT : Hid (TT = cmS t x) := HGO.out HC.out
  have HAF : Hid (lgC (apR t.g (rb 3 x 0 false 0 false 0 0)) = 0 ∧ LogByt (apR t.g (rb 3 x 0 false 0 false 0 0))) := apR_facts HGD.out.lg HRF.out hle HBY.out
  have HLE2 : Hid (t.g.n1 + t.g.n2 + 13 ≤ 4000) := hle
  clear HC0 HBD HGO hle
  obtain ⟨W5, hW5⟩ : ∃ y, y = (w0.setCell ⟨w2.heap.size, 4, none⟩ (.slice y1 t.g.n1 f1)).setCell ⟨w2.heap.size, 5, none⟩ (.slice y2 (t.g.n2 + 13) f2) := ⟨_, rfl⟩
  have hw5 : Writes w2.heap.size (w2.heap.size + 1) w0 W5 := by
    rw [hW5]
    exact ((Writes.refl _ _ _).setCell (p := ⟨w2.heap.size, 4, none⟩) (Nat.le_refl _) (Nat.lt_succ_self _) _).setCell (p := ⟨w2.heap.size, 5, none⟩) (Nat.le_refl _) (Nat.lt_succ_self _) _
  have hs5 : W5.heap.size = w0.heap.size := by rw [hW5]; simp [World.setCell]
  have hs4 := hb4.size
  have HB5 : Hid (Below w1'.heap.size w1' W5) := hw5.below (below_then HB3.out hb4) hs2
  have HOW5 : Hid (OwnS W5 w1'.heap.size w2.heap.size b0 b1 b2 b3 b4 b5 b6 t) := (HOW.out.below hb4).writes hw5 (.inl (Nat.le_refl _))
  have HOG5 : Hid (OwnG W5 W3.heap.size w0.heap.size y1 y2 (apR t.g (rb 3 x 0 false 0 false 0 0))) := hog.writes hw5 (.inr (by omega))
  have HBX5 : Hid (BoxS W5 w2.heap.size (.int .i64 t.nx) (.slice b0 t.pn e0) (.slice b1 t.d.n e1) (.slice b2 t.d.m e2) (.slice y1 t.g.n1 f1) (.slice y2 (t.g.n2 + 13) f2) (.slice b5 t.hn e5) (.slice b6 t.on e6)) := by rw [hW5]; exact (HBX.out.below hb4).set45 _ _
  have HFX5 : Hid (∀ i, W5.frozen? ⟨w2.heap.size, i, none⟩ = false) := fun i => by
    rw [hW5, World.frozen?_setCell, World.frozen?_setCell]
    exact (hb4.frozen (p := ⟨w2.heap.size, i, none⟩) (by show w2.heap.size < W3.heap.size; omega)).trans (HFX.out i)
  rw [← hW5]
  clear hW5 hw5 hog hb4
  replace HZ : Hid (ZR W5 (w.heap.size + 1)) := HZ.out.below HB5.out
  have hlt1 : w.heap.size + 1 < w1'.heap.size := HZ0.out
  obtain ⟨q0, q1, q2, q3, q4, q5, q6, q7⟩ := HBX5.out
  go_wp2_with fail
  refine (l3Flush_any (apR t.g (rb 3 x 0 false 0 false 0 0)) y1 y2 f1 f2 W5 (by have := HLE2.out; show t.g.n1 + (t.g.n2 + 13) ≤ _; omega) HOG5.out.at).mono ?_
  rintro e w6 ⟨ra, rc, rfl, hb6, hob⟩
  rw [show (apR t.g (rb 3 x 0 false 0 false 0 0)).n1 + (apR t.g (rb 3 x 0 false 0 false 0 0)).n2 = t.g.n1 + (t.g.n2 + 13) from rfl] at hob ⊢
  obtain ⟨W7, hW7⟩ : ∃ y, y = (w6.setCell ⟨w2.heap.size, 4, none⟩ (.slice ra (t.g.n1 + (t.g.n2 + 13)) rc)).setCell ⟨w2.heap.size, 5, none⟩ (.slice none 0 0) := ⟨_, rfl⟩
  have hw7 : Writes w2.heap.size (w2.heap.size + 1) w6 W7 := by
    rw [hW7]
    exact ((Writes.refl _ _ _).setCell (p := ⟨w2.heap.size, 4, none⟩) (Nat.le_refl _) (Nat.lt_succ_self _) _).setCell (p := ⟨w2.heap.size, 5, none⟩) (Nat.le_refl _) (Nat.lt_succ_self _) _
  have hs7 : W7.heap.size = w6.heap.size := by rw [hW7]; simp [World.setCell]
  have hs6 := hb6.size
  have HB7 : Hid (Below w1'.heap.size w1' W7) := hw7.below (below_then HB5.out hb6) hs2
  have HOW7 : Hid (OwnS W7 w1'.heap.size w2.heap.size b0 b1 b2 b3 b4 b5 b6 t) := (HOW5.out.below hb6).writes hw7 (.inl (Nat.le_refl _))
  have HOB7 : Hid (OwnB W7 W5.heap.size w6.heap.size ra (t.g.n1 + (t.g.n2 + 13)) (aZ (apR t.g (rb 3 x 0 false 0 false 0 0)))) := hob.writes hw7 (.inr (by omega))
  have HBX7 : Hid (BoxS W7 w2.heap.size (.int .i64 t.nx) (.slice b0 t.pn e0) (.slice b1 t.d.n e1) (.slice b2 t.d.m e2) (.slice ra (t.g.n1 + (t.g.n2 + 13)) rc) (.slice none 0 0) (.slice b5 t.hn e5) (.slice b6 t.on e6)) := by rw [hW7]; exact (HBX5.out.below hb6).set45 _ _
  have HFX7 : Hid (∀ i, W7.frozen? ⟨w2.heap.size, i, none⟩ = false) := fun i => by
    rw [hW7, World.frozen?_setCell, World.frozen?_setCell]
    exact (hb6.frozen (p := ⟨w2.heap.size, i, none⟩) (by show w2.heap.size < W5.heap.size; omega)).trans (HFX5.out i)
  obtain ⟨q0, q1, q2, q3, q4, q5, q6, q7⟩ := HBX5.out.below hb6
  have qf : ∀ i, w6.frozen? ⟨w2.heap.size, i, none⟩ = false := fun i => (hb6.frozen (p := ⟨w2.heap.size, i, none⟩) (by show w2.heap.size < W5.heap.size; omega)).trans (HFX5.out i)
  replace HZ : Hid (ZR W7 (w.heap.size + 1)) := (HZ.out.below hb6).block (hw7.block _ (by omega) (by omega))
  clear hob hb6 hw7
  go_upto_region 11 with fail
  rw [← hW7]
  clear hW7 q0 q1 q2 q3 q4 q5 q6 q7 qf
  have HHN : Hid (t.hn ≤ 90000) := by have := hdF_few HGD.out.hd; show _ ≤ _; omega
  go_wp2_with fail
  refine (l12End_any t.on t.hn t.oF t.hK t.hV x w2.heap.size _ _ _ _ _ _ b5 b6 e5 e6 W7 HON.out HHN.out HBX7.out HFX7.out HOW7.out.at.2.2.2.2 HOW7.out.at.2.2.2.1).mono ?_
  rintro e w9 ⟨rfl, w8, M, va, vc, ca, cc, hb8, hM1, hM2, hro, hrq, hrh, rfl⟩
  have hs8 := hb8.size
  obtain ⟨va', vc', pv1, -, hoI⟩ := own_of_rowI hro (h := M) hrq hM2
  obtain ⟨ca', cc', pc1, -, hoH⟩ := own_of_rowH hrh (h := w8.heap.size) (fun q hq => (hrh.lt q hq).2) (Nat.le_refl _)
  injection pv1 with pv11 pv12 pv13
  injection pc1 with pc11 pc12 pc13
  subst pv11 pc11
  clear pv12 pv13 pc12 pc13 hro hrq hrh
  have HFL : Hid (flL (apR t.g (rb 3 x 0 false 0 false 0 0)) = ⟨t.g.n1 + (t.g.n2 + 13), aZ (apR t.g (rb 3 x 0 false 0 false 0 0)), 0, fun _ => 0⟩) := if_pos HAF.out.1
  have HF : Hid (∀ w7, WritesP (fun q => q = w.heap.size + 1 ∨ q = w2.heap.size) w8 w7 → SRes 0 0 (cmS t x) w (.returned (.agg #[.int .i64 0, .int .i64 0, .int .i64 t.nx, .slice b0 t.pn e0, .slice b1 t.d.n e1, .slice b2 t.d.m e2, .slice ra (t.g.n1 + (t.g.n2 + 13)) rc, .slice none 0 0, .slice ca (flN t.hK x t.hn) cc, .slice va (flN t.oF x t.on) vc])) w7) := fun w7 g1 => by
    unfold cmS
    rw [HFL.out]
    refine ⟨b0, e0, b1, e1, b2, e2, ra, rc, none, 0, ca, cc, va, vc, rfl, ?_, ?_⟩
    · have h0 := below_then HB.out (below_then HB7.out hb8)
      exact ⟨g1.os.trans h0.os, g1.tape.trans h0.tape, g1.output.trans h0.output, by have := h0.size; have := g1.size; omega, fun q hq => (g1.block q (by have := h0.size; omega) (by omega)).trans (h0.block q hq)⟩
    · have p1 := (HOW7.out.below hb8).keep g1.size fun q q1 q2 q3 => g1.block q q3 (by omega)
      have p2 := (HOB7.out.below hb8).keep g1.size fun q q1 q2 q3 => g1.block q q3 (by omega)
      have p3 := hoI.keep g1.size fun q q1 q2 q3 => g1.block q q3 (by omega)
      have p4 := hoH.keep g1.size fun q q1 q2 q3 => g1.block q q3 (by omega)
      have hgs := g1.size
      have pg : OwnG w7 W5.heap.size w6.heap.size ra none ⟨t.g.n1 + (t.g.n2 + 13), aZ (apR t.g (rb 3 x 0 false 0 false 0 0)), 0, fun _ => 0⟩ := ⟨by omega, W5.heap.size, w6.heap.size, w6.heap.size, w6.heap.size, Nat.le_refl _, Nat.le_refl _, by omega, Nat.le_refl _, .inl (Nat.le_refl _), p2, by show _ ≤ _; omega, .inl rfl⟩
      exact (p1.three t.nx hs2 (by omega) (by omega) pg (by omega) hM1 p3 hM2 p4).wide (by omega) (Nat.le_refl _) (Nat.le_refl _)
  obtain ⟨q0, q1, q2, q3, q4, q5, q6, q7⟩ := HBX7.out.below hb8
  have qf : ∀ i, w8.frozen? ⟨w2.heap.size, i, none⟩ = false := fun i => (hb8.frozen (p := ⟨w2.heap.size, i, none⟩) (by show w2.heap.size < W7.heap.size; omega)).trans (HFX7.out i)
  obtain ⟨⟨r0, r1, r2, r3, r4, r5, r6, r7, r8, r9⟩, rf⟩ := HZ.out.below hb8
  have hne2 : ¬ (w.heap.size + 1 = w2.heap.size) := by omega
  have hne4 : ¬ (w2.heap.size = w.heap.size + 1) := by omega
  generalize flN t.oF x t.on = lO at *
  generalize flN t.hK x t.hn = lH at *
  clear HBX HFX HOW HBX5 HFX5 HOW5 HOG5 HBX7 HFX7 HOW7 HX HZ hoI hoH hb8
  go_wp2_with fail
  refine bodyPost_ret (v := .agg #[.int .i64 0, .int .i64 0, .int .i64 t.nx, .slice b0 t.pn e0, .slice b1 t.d.n e1, .slice b2 t.d.m e2, .slice ra (t.g.n1 + (t.g.n2 + 13)) rc, .slice none 0 0, .slice ca lH cc, .slice va lO vc]) (by simp [results, Tryz.results17, go_sem, *]) rfl ?_
  rw [HC.out, HT.out]
  refine HF.out _ ?_
  repeat (first | with_reducible exact WritesP.refl _ _ | with_reducible refine WritesP.setCell ?_ (by first | exact Or.inl rfl | exact Or.inr rfl) _)
end Go.Proofs.YtannmobmmnoegaaGreat
