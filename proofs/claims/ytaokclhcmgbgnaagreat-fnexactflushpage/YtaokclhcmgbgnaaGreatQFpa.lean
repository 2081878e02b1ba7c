/- impl.sureRecs. -/
import Derived.Test.YtaokclhcmgbgnaaGreatQSpl
import Derived.Test.YtaokclhcmgbgnaaGreatQZfd
import Derived.Test.YtaokclhcmgbgnaaGreatQZkb
import Derived.Test.YtaokclhcmgbgnaaGreatQLn
import Derived.Test.YtaokclhcmgbgnaaGreatQPr2
import Derived.Test.YtaokclhcmgbgnaaGreatQRe
namespace Go.Proofs.YtaokclhcmgbgnaaGreat
open Go.ChangeShapes Go.WideShapes Go.ChangeAt Go.RowKit Go.Deep Go.Joins
set_option linter.unusedVariables false
set_option linter.unusedSimpArgs false
set_option maxRecDepth 20000

/-- How many records are sure: the sure bytes by 13. -/
theorem cnt_sure {L : Lo} (hg : lgC L = 0) : cnt L.z1 L.n1 = L.n1 / 13 := by
  obtain ⟨g1, g2⟩ := lgC_zero hg
  have hok : ∀ k, 13 * (k + 1) ≤ L.n1 → okR (sh L.z1 (13 * k)) = true := fun k hk => by
    have h1 := (cnt_spec (aZ L) (L.n1 + L.n2)).1 k (by omega)
    rw [← h1.2]
    exact okR_congr fun i hi => by
      show L.z1 (13 * k + i) = aZ L (13 * k + i)
      rw [aZ_at L _ (by omega), if_pos (by omega)]
  have h2 := (cnt_spec L.z1 L.n1).2
  have h3 := cnt_le L.z1 L.n1
  have : ¬ 13 * (cnt L.z1 L.n1 + 1) ≤ L.n1 := fun h => h2 ⟨h, hok _ h⟩
  omega
def fpZ (s : Sto) (k : Nat) : Nat → Int := zOf (pgb (s.pT k).id (s.pT k).lsn (s.pT k).cn (s.pT k).cK (s.pT k).cV)
def fpG (s : Sto) (k : Nat) : Lo := if ((s.g.n1 / 13 : Nat) : Int) < (s.pT k).lsn then flL s.g else s.g
def fpD (s : Sto) (k : Nat) : Dk := if 57 < s.d.m then plD (syD s.d idF s.d.m) (k : Int) (fpZ s k) else plD s.d (k : Int) (fpZ s k)
/-- A store with another disk. -/
def dkS (s : Sto) (d : Dk) : Sto := ⟨s.nx, s.pn, s.pT, d, s.g, s.hn, s.hK, s.hV, s.on, s.oF⟩
def lgF (s : Sto) (g : Lo) : Sto := ⟨s.nx, s.pn, s.pT, s.d, g, s.hn, s.hK, s.hV, s.on, s.oF⟩
/-- The store whose disk has heard of page k. -/
def fpS (s : Sto) (k : Nat) : Sto := dkS (lgF s (fpG s k)) (fpD s k)
theorem df_sy {D : Dk} (h : GoodD D) (F : Nat → Int) (k : Nat) : df (syD D F k) = 0 := by
  have h1 := h.n1
  have h8 := h.n8
  have hp : ∀ f j, pgf (fun _ => 48) f j = 0 := fun f => by
    induction f with
    | zero => intro j; rfl
    | succ f ih => intro j; rw [pgf, if_pos rfl]; exact ih _
  have hb : inB ((syD D F k).n : Int) 1 8 = true := inB_iff.2 ⟨by show (1 : Int) ≤ (D.n : Int); omega, by show (D.n : Int) ≤ 8; omega⟩
  have h2 : pgf (syD D F k).L (syD D F k).n 0 = 0 := hp _ _
  have h3 : ¬ 60 < (syD D F k).m := by show ¬ 60 < 0; decide
  unfold df
  rw [hb, if_neg (by decide), h2, if_neg (by decide), if_neg h3]
  rfl
theorem pg_good {s : Sto} {k : Nat} (hG : GoodSt s) (hk : k < 4) : pf (s.pT k).id (s.pT k).lsn (s.pT k).cn (s.pT k).cK (s.pT k).cV = 0 ∧ (s.pT k).id = (k : Int) := ⟨(hG.pg k hk).1, (hG.pg k hk).2.1⟩
theorem wr_at {s : Sto} {k : Nat} {D : Dk} (hG : GoodSt s) (hk : k < 4) (hd : df D = 0) (hn : D.n = 4) : wrC D (s.pT k).id (s.pT k).lsn (s.pT k).cn (s.pT k).cK (s.pT k).cV = (if 57 < D.m then 2 else 0) ∧ wrD D (s.pT k).id (s.pT k).lsn (s.pT k).cn (s.pT k).cK (s.pT k).cV = plD D (k : Int) (fpZ s k) := by
  obtain ⟨h1, h2⟩ := pg_good hG hk
  constructor
  · unfold wrC plC
    rw [if_pos hd, if_pos h1, if_pos hd, if_pos rfl, if_pos]
    rw [h2, hn]
    exact inB_iff.2 ⟨by omega, by omega⟩
  · unfold wrD fpZ
    rw [h2]
theorem wr_room {s : Sto} {k : Nat} (hG : GoodSt s) (hk : k < 4) (hm : ¬ 57 < s.d.m) : wrC s.d (s.pT k).id (s.pT k).lsn (s.pT k).cn (s.pT k).cK (s.pT k).cV = 0 ∧ wrD s.d (s.pT k).id (s.pT k).lsn (s.pT k).cn (s.pT k).cK (s.pT k).cV = fpD s k := by
  obtain ⟨h1, h2⟩ := wr_at hG hk hG.df hG.dn
  rw [if_neg hm] at h1
  refine ⟨h1, ?_⟩
  unfold fpD
  rw [if_neg hm]
  exact h2
theorem wr_full {s : Sto} {k : Nat} (hG : GoodSt s) (hk : k < 4) (hm : 57 < s.d.m) : wrC s.d (s.pT k).id (s.pT k).lsn (s.pT k).cn (s.pT k).cK (s.pT k).cV = 2 := by
  have h1 := (wr_at hG hk hG.df hG.dn).1
  rwa [if_pos hm] at h1
theorem wr_sync {s : Sto} {k : Nat} (hG : GoodSt s) (hk : k < 4) (hm : 57 < s.d.m) : wrC (syD s.d idF s.d.m) (s.pT k).id (s.pT k).lsn (s.pT k).cn (s.pT k).cK (s.pT k).cV = 0 ∧ wrD (syD s.d idF s.d.m) (s.pT k).id (s.pT k).lsn (s.pT k).cn (s.pT k).cK (s.pT k).cV = fpD s k := by
  obtain ⟨h1, h2⟩ := wr_at hG hk (df_sy (goodD_of hG.df) idF s.d.m) (show (syD s.d idF s.d.m).n = 4 from hG.dn)
  refine ⟨by rw [h1]; rfl, ?_⟩
  unfold fpD
  rw [if_pos hm]
  exact h2
theorem Wk.disk {s : Sto} {n : Nat} {xs : List Value} {lo : Nat} {col : Nat → Nat} {B l h d1 d2 : Nat} {w : World} {x1 x2 : Option Addr} {D : Dk} (H : Wk s n xs lo col B w) (hll : lo ≤ l) (hlh : l ≤ h) (hh : h ≤ w.heap.size) (hc : ∀ x, l ≤ x → x < h → col x = 0 ∧ x ≠ B) (hg : OwnD w l h x1 x2 D) :
    Wk (dkS s D) n xs lo (colr col l h 2) B ((w.setCell ⟨B, 2, none⟩ (.slice x1 D.n d1)).setCell ⟨B, 3, none⟩ (.slice x2 D.m d2)) := by
  obtain ⟨b0, e0, b1, e1, b2, e2, b3, e3, b4, e4, b5, e5, b6, e6, ra, rc, h1, ⟨h2, h3, h4, h5, h6, h7, h8, h9⟩, g1, g2, g3, g4, g5, g6, g7⟩ := H
  obtain ⟨W, hW⟩ : ∃ x, x = (w.setCell ⟨B, 2, none⟩ (.slice x1 D.n d1)).setCell ⟨B, 3, none⟩ (.slice x2 D.m d2) := ⟨_, rfl⟩
  have hw : Writes B (B + 1) w W := by rw [hW]; exact ((Writes.refl _ _ _).setCell (p := ⟨B, 2, none⟩) (Nat.le_refl _) (Nat.lt_succ_self _) _).setCell (p := ⟨B, 3, none⟩) (Nat.le_refl _) (Nat.lt_succ_self _) _
  have hbx : BoxS W B (.int .i64 s.nx) (.slice b0 s.pn e0) (.slice x1 D.n d1) (.slice x2 D.m d2) (.slice b3 s.g.n1 e3) (.slice b4 s.g.n2 e4) (.slice b5 s.hn e5) (.slice b6 s.on e6) := by
    rw [hW]
    refine ⟨?_, ?_, ?_, ?_, ?_, ?_, ?_, ?_⟩ <;> simp [go_sem, *]
  have q8 : W.cell? ⟨B, 8, none⟩ = some (.slice ra n rc) := by rw [hW]; simp [go_sem, *]
  have q9 : W.cell? ⟨B, 9, none⟩ = some (.func (Fn.func 158) #[] #[]) := by rw [hW]; simp [go_sem, *]
  have qf : ∀ i, W.frozen? ⟨B, i, none⟩ = false := fun i => by rw [hW, World.frozen?_setCell, World.frozen?_setCell]; exact g3 i
  rw [← hW]
  clear hW
  have hne : ∀ x, col x ≠ 0 → x < w.heap.size → W.heap[x]? = w.heap[x]? := fun x hx hl => hw.block x hl (by
    have : x ≠ B := fun e => by rw [e] at hx; exact hx g4
    omega)
  have hcr : ∀ x, col x ≠ 0 → colr col l h 2 x = col x := fun x hx => by
    unfold colr
    rw [if_neg (fun c => hx (hc x c.1 c.2).1)]
  have p1 := g5.keep hw.size hne
  have p2 := p1.recol (col' := colr col l h 2) (fun x hx => by
    by_cases c : l ≤ x ∧ x < h
    · have := hw.size; omega
    · unfold colr at hx; rw [if_neg c] at hx; exact p1.hc x hx) hcr
  refine ⟨b0, e0, x1, d1, x2, d2, b3, e3, b4, e4, b5, e5, b6, e6, ra, rc, h1, hbx, q8, q9, qf, ?_, ?_, ownsRow_of g6 fun q hq => hne q (by rw [g7 q hq]; omega) (g6.lt q hq).2, fun q hq => by rw [hcr q (by rw [g7 q hq]; omega)]; exact g7 q hq⟩
  · unfold colr
    by_cases c : l ≤ B ∧ B < h
    · exact absurd rfl (hc B c.1 c.2).2
    · rw [if_neg c]; exact g4
  · exact ⟨p2.hc, p2.ph, p2.po, p2.pp, fun _ => ⟨x1, d1, x2, d2, l, h, rfl, rfl, fun x k1 k2 => colr_new k1 k2, hg.writes hw (by
      by_cases c : l ≤ B ∧ B < h
      · exact absurd rfl (hc B c.1 c.2).2
      · omega)⟩, p2.pg⟩
/-- Where a page of a store at work lies: its cells, and that its cells stay as long as coloured blocks do. -/
theorem Wk.page {s : Sto} {n : Nat} {xs : List Value} {lo : Nat} {col : Nat → Nat} {B k : Nat} {w : World} (H : Wk s n xs lo col B w) (hk : k < s.pn) :
    ∃ e0 pb ca cc, w.cell? ⟨B, 1, none⟩ = some (.slice (some ⟨pb, 0, none⟩) s.pn e0) ∧ CPg w pb (k * 3) (s.pT k) ca cc ∧ ∀ w', w.heap.size ≤ w'.heap.size → (∀ x, col x ≠ 0 → x < w.heap.size → w'.heap[x]? = w.heap[x]?) → CellsAt w' ca (s.pT k).cn (s.pT k).cK (s.pT k).cV := by
  obtain ⟨b0, e0, b1, e1, b2, e2, b3, e3, b4, e4, b5, e5, b6, e6, ra, rc, h1, hbx, g1, g2, g3, g4, g5, g6, g7⟩ := H
  obtain ⟨M, top, m1, m2, m3, m4⟩ := g5.pp
  obtain ⟨h0, A, c, l, h, ho, hv, hj, hc⟩ := m4
  have hown := ho
  obtain ⟨q1, ⟨q2, q3⟩ | ⟨g, cap, cur, q2, k1, k2, k3, k4⟩⟩ := ho
  · omega
  · injection q2 with q21 q22 q23
    subst q21
    obtain ⟨r1, r2, r3, r4⟩ := hc k hk
    refine ⟨e0, g, A k, c k, hbx.2.1, ?_, fun w' hs hw => ?_⟩
    · have cc : ∀ j v, j < 3 → (rcPg (s.pT k) (A k) (c k))[j]? = some v → w.cell? ⟨g, k * 3 + j, none⟩ = some v := fun j v hj hv => by
        rw [hown.cellAt (k * 3 + j) (by omega), rbPg_get s.pT A c s.pn k j hk hj, hv]
      exact ⟨cc 0 _ (by omega) rfl, cc 1 _ (by omega) rfl, cc 2 _ (by omega) rfl⟩
    · obtain ⟨r40, r41⟩ := r4
      rcases r41 with r41 | ⟨gb, go, ga, r42, r43, r44, r45, -⟩
      · exact .inl r41
      · have hcol : col gb ≠ 0 := by
          rw [m3 gb (by omega) (by omega)]; omega
        have e := hw gb hcol (by omega)
        exact .inr ⟨gb, go, ga, by omega, fun i hi => (cellB e).trans (r44 i hi), fun i hi => (cellB e).trans (r45 i hi)⟩
theorem implUr_R2 (n : Nat) (z : Nat → Int) (a : Option Addr) (cap : Nat) (w : World) (hcap : n ≤ cap) (hn : n ≤ 4000) (hz : Byt n z) (h : BytesAt w a n z) :
    Calls Tryz.prog 159 #[.slice a n cap] w fun e w' => ∃ ra rcp, e = .returned (.agg #[.int .i64 0, .int .i64 (13 * (cnt z n : Int)), .slice ra (cnt z n) rcp]) ∧ Below w.heap.size w w' ∧ RecsAt w' ra (cnt z n) (zRs z) := by
  have q : n = 0 ∨ ∃ b off, a = some ⟨b, off, none⟩ ∧ b < w.heap.size ∧ BA w b off n z := by
    rcases h with h | ⟨b, off, h1, h2, h3⟩
    · exact .inl h
    · exact .inr ⟨b, off, h1, h2, h3⟩
  rcases q with q | ⟨b, off, h1, h2, h3⟩
  · refine (implUr_any n z a 0 0 cap w hcap hn hz (.inl q)).mono ?_
    rintro e w' ⟨ra, rcp, rfl, hb, ho⟩
    exact ⟨ra, rcp, rfl, hb, (own8_of_row ho).at⟩
  · refine (implUr_any n z a b off cap w hcap hn hz (.inr ⟨h1, h2, h3⟩)).mono ?_
    rintro e w' ⟨ra, rcp, rfl, hb, ho⟩
    exact ⟨ra, rcp, rfl, hb, (own8_of_row ho).at⟩
set_option maxHeartbeats 2000000 in
theorem sureRecs_2 (L : Lo) (a1 a2 : Option Addr) (c1 c2 : Nat) (w : World) (hcap : L.n1 ≤ c1) (hn : L.n1 ≤ 4000) (hz : LogByt L) (h : LogAt w a1 a2 L) :
    Calls Tryz.prog 99 #[.agg #[.slice a1 L.n1 c1, .slice a2 L.n2 c2]] w fun e w' => ∃ ra rcp, e = .returned (.slice ra (cnt L.z1 L.n1) rcp) ∧ Below w.heap.size w w' ∧ RecsAt w' ra (cnt L.z1 L.n1) (zRs L.z1) := by
  have HA : Hid (BytesAt w a1 L.n1 L.z1) := h.1
  have HZ : Hid (Byt L.n1 L.z1) := hz.p
  have hf : ∀ (us : Int) (ra : Option Addr) (n rc : Nat) (u : World), (Instr.field 199 (.agg #[.int .i64 0, .int .i64 us, .slice ra n rc]) 2).run Tryz.prog u = .ok (.slice ra n rc) u := fun _ _ _ _ _ => by kernel_rfl
  clear h hz
  go_enter Tryz.func99, Tryz.ntmps99
  go_wp2_with fail
  refine (implUr_R2 L.n1 L.z1 a1 c1 _ hcap hn HZ.out (HA.out.below (below_new _ _))).mono ?_
  rintro e w1 ⟨ra, rcp, rfl, hb, hr⟩
  go_wp2_with fail
  go_ret
  exact ⟨_, _, rfl, below_then (below_new _ _) hb, hr⟩
def f1C (x : Int) : Int := if inB x 0 3 = true then 0 else 3
def fpC (t : Sto) (x : Int) : Int := if stF t = 0 then f1C x else stF t
def fpT (t : Sto) (x : Int) : Sto := if fpC t x = 0 then fpS t x.toNat else zSt
end Go.Proofs.YtaokclhcmgbgnaaGreat
