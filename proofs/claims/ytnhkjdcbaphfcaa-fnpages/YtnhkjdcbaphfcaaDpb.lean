/- Draws of pages: spec.l1Bent. -/
import Derived.Test.YtnhkjdcbaphfcaaDpa
import Derived.Test.YtnhkjdcbaphfcaaWae
namespace Go.Proofs.Ytnhkjdcbaphfcaa
open Go.RowKit Go.Deep
set_option linter.unusedVariables false
set_option linter.unusedSimpArgs false
set_option maxRecDepth 20000

/-- Cells in a block from M on. -/
def Cn (M : Nat) (w : World) (a : Option Addr) (n : Nat) (K V : Nat → Int) : Prop :=
  n = 0 ∨ ∃ b off, a = some ⟨b, off, none⟩ ∧ M ≤ b ∧ b < w.heap.size ∧ (∀ i, i < n → w.cell? ⟨b, off + i * 2, none⟩ = some (.int .i64 (K i))) ∧ (∀ i, i < n → w.cell? ⟨b, off + i * 2 + 1, none⟩ = some (.int .i64 (V i)))
theorem Cn.at {M : Nat} {w : World} {a : Option Addr} {n : Nat} {K V : Nat → Int} (h : Cn M w a n K V) : CellsAt w a n K V := by
  rcases h with h | ⟨b, off, e, -, hl, hk, hv⟩
  · exact .inl h
  · exact .inr ⟨b, off, e, hl, hk, hv⟩
theorem Cn.lower {M M' : Nat} {w : World} {a : Option Addr} {n : Nat} {K V : Nat → Int} (h : Cn M w a n K V) (hm : M' ≤ M) : Cn M' w a n K V := by
  rcases h with h | ⟨b, off, e, h1, r⟩
  · exact .inl h
  · exact .inr ⟨b, off, e, Nat.le_trans hm h1, r⟩
theorem Cn.blocks {M : Nat} {w w' : World} {a : Option Addr} {n : Nat} {K V : Nat → Int} (h : Cn M w a n K V) (hz : w.heap.size ≤ w'.heap.size) (e : ∀ b, M ≤ b → b < w.heap.size → w'.heap[b]? = w.heap[b]?) : Cn M w' a n K V := by
  rcases h with h | ⟨b, off, ha, h1, hl, hk, hv⟩
  · exact .inl h
  · exact .inr ⟨b, off, ha, h1, Nat.lt_of_lt_of_le hl hz, fun i hi => (World.cell?_of_block (w := w) (a := ⟨b, off + i * 2, none⟩) (e b h1 hl)).trans (hk i hi), fun i hi => (World.cell?_of_block (w := w) (a := ⟨b, off + i * 2 + 1, none⟩) (e b h1 hl)).trans (hv i hi)⟩
theorem Cn.below {M : Nat} {w w' : World} {a : Option Addr} {n : Nat} {K V : Nat → Int} (h : Cn M w a n K V) (hb : Below w.heap.size w w') : Cn M w' a n K V := h.blocks hb.size fun b _ hl => hb.block b hl
theorem Cn.dw {M : Nat} {w w' : World} {a : Option Addr} {n : Nat} {K V : Nat → Int} {S : Nat} {a' : Option Addr} {kk cap : Nat} {z : Nat → Int} {t : Nat} (h : Cn M w a n K V) (hS : S < M) (d : Dw S a' kk cap z t w w') : Cn M w' a n K V := h.blocks d.1.size fun b h1 hl => d.1.block b hl (.inr (by omega))
theorem Cn.set {M : Nat} {w : World} {a : Option Addr} {n : Nat} {K V : Nat → Int} {B : Nat} (h : Cn M w a n K V) (hB : B < M) (i : Nat) (x : Value) : Cn M (w.setCell ⟨B, i, none⟩ x) a n K V :=
  h.blocks (by simp [World.setCell]) fun b h1 hl => Below.heap_setCell _ _ _ _ (by show ¬ b = B; omega)
theorem own_cn {w : World} {lo hi : Nat} {a : Option Addr} {n : Nat} {K V : Nat → Int} (h : Own w lo hi a n K V) : Cn lo w a n K V := by
  obtain ⟨h0, h1 | ⟨b, off, ha, h2, h3, hk, hv, -⟩⟩ := h
  · exact .inl h1
  · exact .inr ⟨b, off, ha, h2, by omega, hk, hv⟩
theorem Dl.cn {w wr : World} {S : Nat} {a : Option Addr} {kk cap : Nat} {z : Nat → Int} {t : Nat} {ra : Option Addr} {n rc : Nat} {L : List (Int × Int)} (h : Dl w wr S a kk cap z t (.slice ra n rc) L) : Cn w.heap.size wr ra L.length (kOf L) (vOf L) := by
  obtain ⟨ra', rc', e, ho⟩ := own_of_row h.own
  simp only [Value.slice.injEq] at e
  obtain ⟨rfl, -, -⟩ := e
  exact own_cn ho
theorem Dl.app {w wr w2 : World} {S : Nat} {a : Option Addr} {kk cap : Nat} {z : Nat → Int} {t : Nat} {v v' : Value} {L : List (Int × Int)} {kx vx : Int} (h : Dl w wr S a kk cap z t v L) (g : wr.grownBy w2 v.ownBlock) (ho : w2.ownsRow w.heap.size 45 2 v' (L.length + 1) (cl L ++ [.int .i64 kx, .int .i64 vx])) : Dl w w2 S a kk cap z t v' (L ++ [(kx, vx)]) := by
  have h1 := h.hS
  have hq : ∀ q, v.ownBlock = some q → w.heap.size ≤ q := fun q hq => (h.own.lt q hq).1
  have hsz := h.ws.size
  refine ⟨⟨g.os.trans h.ws.os, g.tape.trans h.ws.tape, g.output.trans h.ws.output, Nat.le_trans hsz g.size, fun k hk hd => (g.block k (by omega) fun e => by have := hq k e.symm; omega).trans (h.ws.block k hk hd)⟩, h1, src_block' h.src g.size fun b hb => g.block b (by have := h.src.lt; omega) fun e => by have := hq b e.symm; omega, ?_⟩
  rw [cl_app]
  simpa [cl] using ho
theorem own_off {w w2 : World} {base n : Nat} {v v' : Value} {xs : List Value} {P : Nat} {A : Array Value} {TP : TypeId} {fz : Nat × Nat} (g : w.grownBy w2 v.ownBlock) (ho : w2.ownsRow base 45 2 v' n xs) (hP : w.heap[P]? = some (.cells A TP fz)) (hT : TP ≠ 45) (h1 : v.ownBlock ≠ some P) : v'.ownBlock ≠ some P := by
  intro e
  obtain ⟨-, ⟨rfl, -⟩ | ⟨g', cap, cur, rfl, -, k2, -⟩⟩ := ho
  · simp [Value.ownBlock] at e
  · simp only [Value.ownBlock, Option.some.injEq] at e
    subst e
    have hl : g' < w.heap.size := (Array.getElem?_eq_some_iff.1 hP).1
    rw [g.block g' hl (fun e => h1 e.symm), hP] at k2
    simp only [Option.some.injEq, Obj.cells.injEq] at k2
    exact hT k2.2.1
theorem step_appD {ops : Array Oper} {o : Oper} {a : Act} {K : Act → World → Prop} {Q : Exit → Act → World → Prop} {E : Prop} (w : World) (d : Option Tmp) (hd : o.dst = d) (hgd : o.guard = none) (s x : Operand)
    (ho : o.op = .call { callee := .builtin .append, args := #[s, x], argTypes := #[25, 25] })
    (base : Nat) (v : Value) (n : Nat) (xs : List Value) (hs : a.eval s = v) (hown : w.ownsRow base 45 2 v n xs)
    (ad : Addr) (m c : Nat) (news : List Value) (hx : a.eval x = .slice (some ad) m c) (hl : news.length = m * 2) (hnews : ∀ j u, news[j]? = some u → w.cell? (ad.add j) = some u) (h1 : ∀ u ∈ news, u.oneCell' = true)
    (h63 : n + m ≤ 100000) (hbase : base ≤ w.heap.size)
    (h : ∀ v' w', w'.ownsRow base 45 2 v' (n + m) (xs ++ news) → w.grownBy w' v.ownBlock → K (a.put d v') w') :
    if Region.wanted o (yielded ops a.tmps) = true then Oper.wp Try.prog o a w K Q else E := by
  subst hd
  exact step_app w hgd s x ho base v n xs hs hown ad m c news hx hl hnews h1 h63 hbase h
theorem bent_end {w u : World} {S : Nat} {a : Option Addr} {kk cap : Nat} {z : Nat → Int} {t : Nat} {M B n : Nat} {ra : Option Addr} {K V : Nat → Int} (hd : Dw S a kk cap z t w u) (hc : Cn M u ra n K V) (hS : S < w.heap.size) (hB : w.heap.size ≤ B) (hBM : B < M) (u0 u1 u2 : Value) :
    Dw S a kk cap z t w (((u.setCell ⟨B, 0, none⟩ u0).setCell ⟨B, 1, none⟩ u1).setCell ⟨B, 2, none⟩ u2) ∧ Cn w.heap.size (((u.setCell ⟨B, 0, none⟩ u0).setCell ⟨B, 1, none⟩ u1).setCell ⟨B, 2, none⟩ u2) ra n K V := by
  have e : ∀ k, k ≠ B → (((u.setCell ⟨B, 0, none⟩ u0).setCell ⟨B, 1, none⟩ u1).setCell ⟨B, 2, none⟩ u2).heap[k]? = u.heap[k]? := fun k hk => ((Below.heap_setCell _ _ _ _ (by show ¬ k = B; exact hk)).trans (Below.heap_setCell _ _ _ _ (by show ¬ k = B; exact hk))).trans (Below.heap_setCell _ _ _ _ (by show ¬ k = B; exact hk))
  have hz : (((u.setCell ⟨B, 0, none⟩ u0).setCell ⟨B, 1, none⟩ u1).setCell ⟨B, 2, none⟩ u2).heap.size = u.heap.size := by simp [World.setCell]
  have h1 := hd.1
  exact ⟨⟨⟨h1.os, h1.tape, h1.output, by rw [hz]; exact h1.size, fun k hk hd => (e k (by omega)).trans (h1.block k hk hd)⟩, src_block' hd.2 (by rw [hz]; exact Nat.le_refl _) fun b hb => e b (by omega)⟩, (((hc.set hBM 0 u0).set hBM 1 u1).set hBM 2 u2).lower (by omega)⟩
def BentP (S : Nat) (a : Option Addr) (kk cap : Nat) (z : Nat → Int) (t : Nat) (w : World) (e : Ending) (w' : World) : Prop :=
  ∃ (id ls : Int) (ra : Option Addr) (n rc : Nat) (K V : Nat → Int) (t' : Nat), e = .returned (.agg #[.int .i64 id, .int .i64 ls, .slice ra n rc]) ∧ n ≤ 13 ∧ n ≤ rc ∧ t' ≤ t + 60 ∧ Cn w.heap.size w' ra n K V ∧ Dw S a kk cap z t' w w' ∧ ∃ b off, ra = some ⟨b, off, none⟩
set_option maxHeartbeats 16000000 in
theorem l1Bent_any (S : Nat) (a : Option Addr) (kk cap : Nat) (z : Nat → Int) (t0 : Nat) (w : World) (ht0 : t0 ≤ 700000) (h : Src w S a kk cap z t0) :
    Calls Try.prog 39 #[.pointer (some ⟨S, 0, none⟩)] w (BentP S a kk cap z t0 w) := by
  have HS : Hid (Src w S a kk cap z t0) := h
  have HSl : Hid (S < w.heap.size) := h.lt
  clear h
  go_enter Try.func39, Try.ntmps39
  go_wp2_with fail
  have BX := BxP.new w (.int .i64 0) (.int .i64 0) (.slice none 0 0) 27
  have HW0 : Hid (Dw S a kk cap z t0 w (w.alloc (.cells #[.int .i64 0, .int .i64 0, .slice none 0 0] 27))) := HS.out.self.below (below_new _ _)
  obtain ⟨B, hB⟩ : ∃ B, B = w.heap.size := ⟨_, rfl⟩
  have HBw : Hid (w.heap.size ≤ B) := by show w.heap.size ≤ B; omega
  have HBS : Hid (B ≠ S) := by show B ≠ S; have := HSl.out; omega
  rw [← hB] at BX ⊢
  generalize (w.alloc (.cells #[.int .i64 0, .int .i64 0, .slice none 0 0] 27)) = w0 at *
  have HBM : Hid (B < w0.heap.size) := BX.lt
  clear hB HS
  refine (l1Page_any S a kk cap z t0 w0 (by omega) HW0.out.src).mono ?_
  rintro e w1 ⟨id, ls, v, L, t1, rfl, hL, ht1, hd, hvn, -⟩
  obtain ⟨ra, rc, rfl, hrc, -⟩ := cells_shape hd.own
  have D0 : Hid (Dl w0 w1 S a kk cap z t1 (.slice ra L.length rc) L) := hd
  have HSR : Hid (∃ b off, ra = some ⟨b, off, none⟩) := own_some hd.own hvn
  clear hvn
  have HVB : Hid ((Value.slice ra L.length rc).ownBlock ≠ some B) := fun e => by have h1 := (hd.own.lt B e).1; have h2 := HBM.out; omega
  have hBl := HBM.out
  replace BX := BX.block (hd.ws.block B hBl (by have := HBS.out; omega))
  clear hd hBl
  go_upto_region 2 with fail
  obtain ⟨u, hW⟩ : ∃ y, y = w1.alloc (.cells #[.int .i64 id, .int .i64 ls, .slice ra L.length rc] 27) := ⟨_, rfl⟩
  have hb : Below w1.heap.size w1 u := by rw [hW]; exact below_new _ _
  have PX : BxP u w1.heap.size (.int .i64 id) (.int .i64 ls) (.slice ra L.length rc) := by rw [hW]; exact BxP.new _ _ _ _ _
  obtain ⟨AR, HTP⟩ : ∃ A : Array Value, Hid (u.heap[w1.heap.size]? = some (.cells A 27 (0, 0))) := ⟨_, by rw [hW]; exact blk_alloc_new _ _⟩
  have hsl := D0.out.src.lt
  have hBl := BX.lt
  have HPS : Hid (w1.heap.size ≠ S) := by show w1.heap.size ≠ S; omega
  have HPB : Hid (w1.heap.size ≠ B) := by show w1.heap.size ≠ B; omega
  have HPW : Hid (w0.heap.size ≤ w1.heap.size) := D0.out.ws.size
  have HVP : Hid ((Value.slice ra L.length rc).ownBlock ≠ some w1.heap.size) := fun e => by have h1 := (D0.out.own.lt _ e).2; omega
  replace BX := BX.below hb
  replace D0 : Hid (Dl w0 u S a kk cap z t1 (.slice ra L.length rc) L) := D0.out.up hb
  rw [← hW]
  clear hW hb hsl hBl
  generalize w1.heap.size = P at *
  go_wp2_with fail
  refine (l1Next_any S a kk cap z t1 20 _ (by omega) (by omega) D0.out.src).mono ?_
  rintro e u1 ⟨y, rfl, hy, hn⟩
  have hd := hn.dw
  replace D0 : Hid (Dl w0 u1 S a kk cap z (t1 + 1) (.slice ra L.length rc) L) := D0.out.dw hd
  replace HTP : Hid (u1.heap[P]? = some (.cells AR 27 (0, 0))) := (hd.1.block P PX.lt (by have := HPS.out; omega)).trans HTP.out
  replace PX := PX.dw HPS.out hd
  replace BX := BX.dw HBS.out hd
  clear hn hd hy
  obtain ⟨u, rfl⟩ : ∃ q, q = u1 := ⟨_, rfl⟩
  obtain ⟨t, ht⟩ : ∃ q, q = t1 + 1 ∧ q ≤ t0 + 41 := ⟨_, rfl, by omega⟩
  rw [← ht.1] at D0
  replace ht := ht.2
  by_cases y0 : y = 0
  · subst y0
    obtain ⟨FA, hFA⟩ : ∃ F : Nat → Int, F = fun i => if i = 0 then -1 else if i = 1 then 8 else 7 := ⟨_, rfl⟩
    go_wp2_with fail
    have hsl := D0.out.src.lt
    have D1 : Hid (∀ ob : Obj, Dl w0 (u.alloc ob) S a kk cap z t (.slice ra L.length rc) L) := fun ob => D0.out.up (below_new _ _)
    have PX1 := fun ob : Obj => PX.below (below_new u ob)
    have BX1 := fun ob : Obj => BX.below (below_new u ob)
    refine (l1Pick_any S a kk cap z t u.heap.size 0 3 3 FA _ (by omega) (by omega) (by omega) (by omega) (by simp [go_sem]) (fun i hi => ?_) (D1.out _).src).mono ?_
    · rcases i with - | - | - | i
      · simp [go_sem, hFA]
      · simp [go_sem, hFA]
      · simp [go_sem, hFA]
      · omega
    rintro e u2 ⟨i, hi, rfl, hn⟩
    have hd := hn.dw
    have D2 : Hid (Dl w0 u2 S a kk cap z (t + 1) (.slice ra L.length rc) L) := (D1.out _).dw hd
    replace PX := (PX1 _).dw HPS.out hd
    replace BX := (BX1 _).dw HBS.out hd
    generalize FA i = x9 at *
    clear hd hn hi hFA D1 PX1 BX1 hsl
    obtain ⟨p0, p1, p2, pf⟩ := PX
    go_upto_region 11 with fail
    obtain ⟨ue, hW⟩ : ∃ y, y = u2.setCell ⟨P, 0, none⟩ (.int .i64 x9) := ⟨_, rfl⟩
    have D3 := D2.out.set HPW.out HVP.out 0 (.int .i64 x9)
    rw [← hW] at D3
    have PX : BxP ue P (.int .i64 x9) (.int .i64 ls) (.slice ra L.length rc) := by rw [hW]; exact ⟨setS p0, (setO (by omega)).trans p1, (setO (by omega)).trans p2, fun i => by rw [World.frozen?_setCell]; exact pf i⟩
    replace BX : BxP ue B (.int .i64 0) (.int .i64 0) (.slice none 0 0) := BX.block (by rw [hW]; exact Below.heap_setCell _ _ _ _ (by show ¬ B = P; exact Ne.symm HPB.out))
    have HC : Hid (Cn w0.heap.size ue ra L.length (kOf L) (vOf L)) := D3.cn
    have HW : Hid (Dw S a kk cap z (t + 1) w ue) := HW0.out.trans ⟨D3.ws, D3.src⟩
    rw [← hW]
    clear hW D3 p0 p1 p2 pf D2
    have HE := HC.out
    have HFN : Hid (∀ u0 u1 u2 : Value, _) := fun u0 u1 u2 => bent_end HW.out HE HSl.out HBw.out HBM.out u0 u1 u2
    obtain ⟨p0, p1, p2, -⟩ := PX
    obtain ⟨q0, q1, q2, qf⟩ := BX
    clear HE HC HW
    go_wp2_with fail
    exact bodyPost_ret (v := .agg #[.int .i64 x9, .int .i64 ls, .slice ra L.length rc]) (by simp [results, Try.results39, go_sem, *]) rfl ⟨_, _, _, _, _, _, _, _, rfl, by omega, by omega, by omega, (HFN.out _ _ _).2, (HFN.out _ _ _).1, HSR.out⟩
  · by_cases y1 : y = 1
    · subst y1
      obtain ⟨FA, hFA⟩ : ∃ F : Nat → Int, F = fun i => if i = 0 then -1 else if i = 1 then 1000000 else 1000001 := ⟨_, rfl⟩
      go_wp2_with fail
      have hsl := D0.out.src.lt
      have D1 : Hid (∀ ob : Obj, Dl w0 (u.alloc ob) S a kk cap z t (.slice ra L.length rc) L) := fun ob => D0.out.up (below_new _ _)
      have PX1 := fun ob : Obj => PX.below (below_new u ob)
      have BX1 := fun ob : Obj => BX.below (below_new u ob)
      refine (l1Pick_any S a kk cap z t u.heap.size 0 3 3 FA _ (by omega) (by omega) (by omega) (by omega) (by simp [go_sem]) (fun i hi => ?_) (D1.out _).src).mono ?_
      · rcases i with - | - | - | i
        · simp [go_sem, hFA]
        · simp [go_sem, hFA]
        · simp [go_sem, hFA]
        · omega
      rintro e u2 ⟨i, hi, rfl, hn⟩
      have hd := hn.dw
      have D2 : Hid (Dl w0 u2 S a kk cap z (t + 1) (.slice ra L.length rc) L) := (D1.out _).dw hd
      replace PX := (PX1 _).dw HPS.out hd
      replace BX := (BX1 _).dw HBS.out hd
      generalize FA i = x9 at *
      clear hd hn hi hFA D1 PX1 BX1 hsl
      obtain ⟨p0, p1, p2, pf⟩ := PX
      go_upto_region 11 with fail
      obtain ⟨ue, hW⟩ : ∃ y, y = u2.setCell ⟨P, 1, none⟩ (.int .i64 x9) := ⟨_, rfl⟩
      have D3 := D2.out.set HPW.out HVP.out 1 (.int .i64 x9)
      rw [← hW] at D3
      have PX : BxP ue P (.int .i64 id) (.int .i64 x9) (.slice ra L.length rc) := by rw [hW]; exact ⟨(setO (by omega)).trans p0, setS p1, (setO (by omega)).trans p2, fun i => by rw [World.frozen?_setCell]; exact pf i⟩
      replace BX : BxP ue B (.int .i64 0) (.int .i64 0) (.slice none 0 0) := BX.block (by rw [hW]; exact Below.heap_setCell _ _ _ _ (by show ¬ B = P; exact Ne.symm HPB.out))
      have HC : Hid (Cn w0.heap.size ue ra L.length (kOf L) (vOf L)) := D3.cn
      have HW : Hid (Dw S a kk cap z (t + 1) w ue) := HW0.out.trans ⟨D3.ws, D3.src⟩
      rw [← hW]
      clear hW D3 p0 p1 p2 pf D2
      have HE := HC.out
      have HFN : Hid (∀ u0 u1 u2 : Value, _) := fun u0 u1 u2 => bent_end HW.out HE HSl.out HBw.out HBM.out u0 u1 u2
      obtain ⟨p0, p1, p2, -⟩ := PX
      obtain ⟨q0, q1, q2, qf⟩ := BX
      clear HE HC HW
      go_wp2_with fail
      exact bodyPost_ret (v := .agg #[.int .i64 id, .int .i64 x9, .slice ra L.length rc]) (by simp [results, Try.results39, go_sem, *]) rfl ⟨_, _, _, _, _, _, _, _, rfl, by omega, by omega, by omega, (HFN.out _ _ _).2, (HFN.out _ _ _).1, HSR.out⟩
    · by_cases y2 : y = 2
      · subst y2
        go_upto_region 8 with fail
        obtain ⟨FA, hFA⟩ : ∃ F : Nat → Int, F = fun i => if i = 0 then -1 else if i = 1 then 32 else if i = 2 then 3 else 31 := ⟨_, rfl⟩
        obtain ⟨FE, hFE⟩ : ∃ F : Nat → Int, F = fun i => if i = 0 then -1 else if i = 1 then 9999 else 10000 := ⟨_, rfl⟩
        have HFA : Hid (FA = _) := hFA
        have HFE : Hid (FE = _) := hFE
        clear hFA hFE
        refine wp_region_E 12 (S := fun u => u.cell? ⟨P, 2, none⟩ = some (.slice ra L.length rc)) (by kernel_rfl) PX.2.2.1 (fun hS => ?_)
        obtain ⟨u0, hu0⟩ : ∃ y, y = u.drew := ⟨_, rfl⟩
        have hbd : Below u.heap.size u u0 := by rw [hu0]; exact (Below.refl _ _).drew
        rw [← hu0] at hS ⊢
        clear hu0
        replace D0 : Hid (Dl w0 u0 S a kk cap z t (.slice ra L.length rc) L) := D0.out.up hbd
        replace HTP : Hid (u0.heap[P]? = some (.cells AR 27 (0, 0))) := (hbd.block P PX.lt).trans HTP.out
        replace PX := PX.below hbd
        replace BX := BX.below hbd
        clear hbd
        refine wpAnyE_takeD (L := 12) (i := 0) (v := .pointer (some ⟨P, 2, none⟩)) (some 22) rfl rfl (by kernel_rfl) (by kernel_rfl) (by kernel_rfl) (by kernel_rfl) (fun _ _ _ h => h) (Or.inl ⟨by kernel_rfl, by intro u hSu; go_simp⟩) hS ?_
        try simp only [Act.put, List.setIfInBounds_toArray, List.set_cons_zero, List.set_cons_succ]
        refine wpAnyE_takeD (L := 12) (i := 1) (v := .slice ra L.length rc) (some 23) rfl rfl (by kernel_rfl) (by kernel_rfl) (by kernel_rfl) (by kernel_rfl) (fun _ _ _ h => h) (Or.inl ⟨by kernel_rfl, by intro u hSu; go_simp⟩) hS ?_
        try simp only [Act.put, List.setIfInBounds_toArray, List.set_cons_zero, List.set_cons_succ]
        refine wpAnyE_takeD (L := 12) (i := 2) (v := .pointer (some ⟨S, 0, none⟩)) (some 24) rfl rfl (by kernel_rfl) (by kernel_rfl) (by kernel_rfl) (by kernel_rfl) (fun _ _ _ h => h) (Or.inl ⟨by kernel_rfl, by intro u hSu; go_simp⟩) hS ?_
        try simp only [Act.put, List.setIfInBounds_toArray, List.set_cons_zero, List.set_cons_succ]
        refine wpAnyE_takeD (L := 12) (i := 5) (v := .pointer (some ⟨S, 0, none⟩)) (some 27) rfl rfl (by kernel_rfl) (by kernel_rfl) (by kernel_rfl) (by kernel_rfl) (fun _ _ _ h => h) (Or.inl ⟨by kernel_rfl, by intro u hSu; go_simp⟩) hS ?_
        try simp only [Act.put, List.setIfInBounds_toArray, List.set_cons_zero, List.set_cons_succ]
        refine wpAnyE_ready (rs := [3, 6]) (by kernel_rfl) (by simp) ?_
        refine AllReadyE.cons rfl (fun K hK => ?_) (AllReadyE.cons rfl (fun K hK => ?_) AllReadyE.nil)
        · go_simp
          obtain ⟨ua, hW⟩ : ∃ y, y = u0.alloc (.cells #[.int .i64 (-1), .int .i64 32, .int .i64 3, .int .i64 31] 2) := ⟨_, rfl⟩
          have hb : Below u0.heap.size u0 ua := by rw [hW]; exact below_new _ _
          have hA : ∀ i, i < 4 → ua.cell? ⟨u0.heap.size, 0 + i, none⟩ = some (.int .i64 (FA i)) := fun i hi => by
            rw [hW]
            rcases i with - | - | - | - | i
            · simp [go_sem, HFA.out]
            · simp [go_sem, HFA.out]
            · simp [go_sem, HFA.out]
            · simp [go_sem, HFA.out]
            · omega
          have hsl := D0.out.src.lt
          have HAS : Hid (u0.heap.size ≠ S) := by show u0.heap.size ≠ S; omega
          replace D0 : Hid (Dl w0 ua S a kk cap z t (.slice ra L.length rc) L) := D0.out.up hb
          replace HTP : Hid (ua.heap[P]? = some (.cells AR 27 (0, 0))) := (hb.block P PX.lt).trans HTP.out
          replace PX := PX.below hb
          replace BX := BX.below hb
          rw [← hW]
          clear hW hb hsl
          generalize u0.heap.size = DA at *
          refine hK.out _ _ PX.2.2.1 (fun hS9 => ?_)
          try simp only [Act.put, List.setIfInBounds_toArray, List.set_cons_zero, List.set_cons_succ]
          clear hK K hS
          have hS := hS9
          clear hS9
          refine wpAnyE_ready (rs := [4, 6]) (by kernel_rfl) (by simp) ?_
          refine AllReadyE.cons rfl (fun K hK => ?_) (AllReadyE.cons rfl (fun K hK => ?_) AllReadyE.nil)
          · go_simp
            have hlt := Go.block_lt_of_cell (hA 0 (by omega))
            refine (l1Pick_any S a kk cap z t DA 0 4 4 FA ua (by omega) (by omega) (by omega) HAS.out hlt hA D0.out.src).mono ?_
            rintro e ub ⟨iA, hiA, rfl, hn⟩
            have hd := hn.dw
            clear hlt hn
            replace D0 : Hid (Dl w0 ub S a kk cap z (t + 1) (.slice ra L.length rc) L) := D0.out.dw hd
            replace HTP : Hid (ub.heap[P]? = some (.cells AR 27 (0, 0))) := (hd.1.block P PX.lt (by have := HPS.out; omega)).trans HTP.out
            replace PX := PX.dw HPS.out hd
            replace BX := BX.dw HBS.out hd
            replace hA : ∀ i, i < 4 → ub.cell? ⟨DA, 0 + i, none⟩ = some (.int .i64 (FA i)) := fun i hi => by
              have hl := Go.block_lt_of_cell (hA i hi)
              exact (World.cell?_of_block (a := ⟨DA, 0 + i, none⟩) (hd.1.block DA hl (by have := HAS.out; omega))).trans (hA i hi)
            generalize FA iA = kx at *
            clear hd hiA
            refine hK.out _ _ PX.2.2.1 (fun hS9 => ?_)
            try simp only [Act.put, List.setIfInBounds_toArray, List.set_cons_zero, List.set_cons_succ]
            clear hK K hS
            have hS := hS9
            clear hS9
            obtain ⟨t, ht⟩ : ∃ y : Nat, y = t + 1 ∧ y ≤ t0 + 45 := ⟨_, rfl, by omega⟩
            rw [← ht.1] at D0
            replace ht := ht.2
            refine wpAnyE_ready (rs := [6]) (by kernel_rfl) (by simp) ?_
            refine AllReadyE.cons rfl (fun K hK => ?_) AllReadyE.nil
            go_simp
            obtain ⟨ud0, hW⟩ : ∃ y, y = ub.alloc (.cells #[.int .i64 (-1), .int .i64 9999, .int .i64 10000] 2) := ⟨_, rfl⟩
            have hb : Below ub.heap.size ub ud0 := by rw [hW]; exact below_new _ _
            have hE : ∀ i, i < 3 → ud0.cell? ⟨ub.heap.size, 0 + i, none⟩ = some (.int .i64 (FE i)) := fun i hi => by
              rw [hW]
              rcases i with - | - | - | i
              · simp [go_sem, HFE.out]
              · simp [go_sem, HFE.out]
              · simp [go_sem, HFE.out]
              · omega
            have hsl := D0.out.src.lt
            have HES : Hid (ub.heap.size ≠ S) := by show ub.heap.size ≠ S; omega
            replace D0 : Hid (Dl w0 ud0 S a kk cap z t (.slice ra L.length rc) L) := D0.out.up hb
            replace HTP : Hid (ud0.heap[P]? = some (.cells AR 27 (0, 0))) := (hb.block P PX.lt).trans HTP.out
            replace PX := PX.below hb
            replace BX := BX.below hb
            replace hA : ∀ i, i < 4 → ud0.cell? ⟨DA, 0 + i, none⟩ = some (.int .i64 (FA i)) := fun i hi => cell_below (hA i hi) hb
            rw [← hW]
            clear hW hb hsl
            generalize ub.heap.size = DE at *
            refine hK.out _ _ PX.2.2.1 (fun hS9 => ?_)
            try simp only [Act.put, List.setIfInBounds_toArray, List.set_cons_zero, List.set_cons_succ]
            clear hK K hS
            have hS := hS9
            clear hS9
            refine wpAnyE_ready (rs := [7]) (by kernel_rfl) (by simp) ?_
            refine AllReadyE.cons rfl (fun K hK => ?_) AllReadyE.nil
            go_simp
            have hlt := Go.block_lt_of_cell (hE 0 (by omega))
            refine (l1Pick_any S a kk cap z t DE 0 3 3 FE ud0 (by omega) (by omega) (by omega) HES.out hlt hE D0.out.src).mono ?_
            rintro e ue0 ⟨iE, hiE, rfl, hn⟩
            have hd := hn.dw
            clear hlt hn
            replace D0 : Hid (Dl w0 ue0 S a kk cap z (t + 1) (.slice ra L.length rc) L) := D0.out.dw hd
            replace HTP : Hid (ue0.heap[P]? = some (.cells AR 27 (0, 0))) := (hd.1.block P PX.lt (by have := HPS.out; omega)).trans HTP.out
            replace PX := PX.dw HPS.out hd
            replace BX := BX.dw HBS.out hd
            replace hA : ∀ i, i < 4 → ue0.cell? ⟨DA, 0 + i, none⟩ = some (.int .i64 (FA i)) := fun i hi => by
              have hl := Go.block_lt_of_cell (hA i hi)
              exact (World.cell?_of_block (a := ⟨DA, 0 + i, none⟩) (hd.1.block DA hl (by have := HAS.out; omega))).trans (hA i hi)
            replace hE : ∀ i, i < 3 → ue0.cell? ⟨DE, 0 + i, none⟩ = some (.int .i64 (FE i)) := fun i hi => by
              have hl := Go.block_lt_of_cell (hE i hi)
              exact (World.cell?_of_block (a := ⟨DE, 0 + i, none⟩) (hd.1.block DE hl (by have := HES.out; omega))).trans (hE i hi)
            generalize FE iE = vx at *
            clear hd hiE
            refine hK.out _ _ PX.2.2.1 (fun hS9 => ?_)
            try simp only [Act.put, List.setIfInBounds_toArray, List.set_cons_zero, List.set_cons_succ]
            clear hK K hS
            have hS := hS9
            clear hS9
            obtain ⟨t, ht⟩ : ∃ y : Nat, y = t + 1 ∧ y ≤ t0 + 50 := ⟨_, rfl, by omega⟩
            rw [← ht.1] at D0
            replace ht := ht.2
            refine wpAnyE_takeD (L := 12) (i := 8) (v := .agg #[.int .i64 kx, .int .i64 vx]) (some 30) rfl rfl (by kernel_rfl) (by kernel_rfl) (by kernel_rfl) (by kernel_rfl) (fun _ _ _ h => h) (Or.inl ⟨by kernel_rfl, by intro u hSu; go_simp⟩) hS ?_
            try simp only [Act.put, List.setIfInBounds_toArray, List.set_cons_zero, List.set_cons_succ]
            refine wpAnyE_ready (rs := [9]) (by kernel_rfl) (by simp) ?_
            refine AllReadyE.cons rfl (fun K hK => ?_) AllReadyE.nil
            go_simp
            obtain ⟨uc, hW⟩ : ∃ y, y = ue0.alloc (.cells #[.int .i64 kx, .int .i64 vx] 45) := ⟨_, rfl⟩
            have hb : Below ue0.heap.size ue0 uc := by rw [hW]; exact below_new _ _
            have hnw : ∀ j y, [Value.int .i64 kx, Value.int .i64 vx][j]? = some y → uc.cell? ((⟨ue0.heap.size, 0, none⟩ : Addr).add j) = some y := by rw [hW]; exact cell_two_new _ _ _ _
            replace D0 : Hid (Dl w0 uc S a kk cap z t (.slice ra L.length rc) L) := D0.out.up hb
            replace HTP : Hid (uc.heap[P]? = some (.cells AR 27 (0, 0))) := (hb.block P PX.lt).trans HTP.out
            replace PX := PX.below hb
            replace BX := BX.below hb
            rw [← hW]
            clear hW hb
            generalize ue0.heap.size = DC at *
            refine hK.out _ _ PX.2.2.1 (fun hS9 => ?_)
            try simp only [Act.put, List.setIfInBounds_toArray, List.set_cons_zero, List.set_cons_succ]
            clear hK K hS
            have hS := hS9
            clear hS9
            refine wpAnyE_ready (rs := [10]) (by kernel_rfl) (by simp) ?_
            refine AllReadyE.cons rfl (fun K hK => ?_) AllReadyE.nil
            refine step_appD uc (some 32) rfl rfl (.tmp 23) (.tmp 31) rfl w0.heap.size _ L.length (cl L) rfl D0.out.own ⟨DC, 0, none⟩ 1 1 _ rfl rfl hnw (by simp [Value.oneCell']) (by omega) D0.out.ws.size (fun v2 ud ho2 hg2 => ?_)
            have hD := D0.out.app hg2 (kx := kx) (vx := vx) ho2
            have hnP : (Value.slice ra L.length rc).ownBlock ≠ some P := HVP.out
            have hnB : (Value.slice ra L.length rc).ownBlock ≠ some B := HVB.out
            replace PX := PX.block (hg2.block P PX.lt (fun e => hnP e.symm))
            replace BX := BX.block (hg2.block B BX.lt (fun e => hnB e.symm))
            have HD2 : Hid (Dl w0 ud S a kk cap z t v2 (L ++ [(kx, vx)])) := hD
            have HN2 : Hid (v2.ownBlock ≠ some P) := own_off hg2 ho2 HTP.out (by decide) hnP
            clear hD ho2 hg2 hnw hnP hnB D0
            refine hK.out _ _ PX.2.2.1 (fun hS9 => ?_)
            try simp only [Act.put, List.setIfInBounds_toArray, List.set_cons_zero, List.set_cons_succ]
            clear hK K hS
            have hS := hS9
            clear hS9
            refine wpAnyE_takeD (L := 12) (i := 11) (v := .pointer (some ⟨P, 2, none⟩)) (some 33) rfl rfl (by kernel_rfl) (by kernel_rfl) (by kernel_rfl) (by kernel_rfl) (fun _ _ _ h => h) (Or.inl ⟨by kernel_rfl, by intro u hSu; go_simp⟩) hS ?_
            try simp only [Act.put, List.setIfInBounds_toArray, List.set_cons_zero, List.set_cons_succ]
            refine wpAnyE_ready (rs := [12]) (by kernel_rfl) (by simp) ?_
            refine AllReadyE.last rfl (fun K hK => ?_)
            obtain ⟨ra2, rc2, rfl, hrc2, hca2⟩ := cells_shape HD2.out.own
            have hlen : (L ++ [(kx, vx)]).length = L.length + 1 := by simp
            rw [hlen] at hrc2
            replace HD2 : Hid (Dl w0 ud S a kk cap z t (.slice ra2 (L.length + 1) rc2) (L ++ [(kx, vx)])) := by have := HD2.out; rw [hlen] at this; exact this
            replace HN2 : Hid ((Value.slice ra2 (L.length + 1) rc2).ownBlock ≠ some P) := by have := HN2.out; rw [hlen] at this; exact this
            obtain ⟨p0, p1, p2, pf⟩ := PX
            go_simp
            refine hK.out _ _ ?_
            clear hK K hS
            refine wpAnyE_done (by kernel_rfl) ?_ _
            go_simp
            obtain ⟨ue, hW⟩ : ∃ y, y = ud.setCell ⟨P, 2, none⟩ (.slice ra2 (L.length + 1) rc2) := ⟨_, rfl⟩
            have D3 := HD2.out.set HPW.out HN2.out 2 (.slice ra2 (L.length + 1) rc2)
            rw [← hW] at D3
            have PX : BxP ue P (.int .i64 id) (.int .i64 ls) (.slice ra2 (L.length + 1) rc2) := by rw [hW]; exact ⟨(setO (by omega)).trans p0, (setO (by omega)).trans p1, setS p2, fun i => by rw [World.frozen?_setCell]; exact pf i⟩
            replace BX : BxP ue B (.int .i64 0) (.int .i64 0) (.slice none 0 0) := BX.block (by rw [hW]; exact Below.heap_setCell _ _ _ _ (by show ¬ B = P; exact Ne.symm HPB.out))
            have HC : Hid (Cn w0.heap.size ue ra2 (L.length + 1) (kOf (L ++ [(kx, vx)])) (vOf (L ++ [(kx, vx)]))) := by have := D3.cn; rw [hlen] at this; exact this
            have HW : Hid (Dw S a kk cap z t w ue) := HW0.out.trans ⟨D3.ws, D3.src⟩
            have hl13 : L.length + 1 ≤ 13 := by omega
            replace HSR : Hid (∃ b off, ra2 = some ⟨b, off, none⟩) := own_some D3.own (own_not D3.own (by simp))
            rw [← hW]
            clear hW D3 p0 p1 p2 pf HD2 HN2 hca2 hlen
            have HE := HC.out
            have HFN : Hid (∀ u0 u1 u2 : Value, _) := fun u0 u1 u2 => bent_end HW.out HE HSl.out HBw.out HBM.out u0 u1 u2
            obtain ⟨p0, p1, p2, -⟩ := PX
            obtain ⟨q0, q1, q2, qf⟩ := BX
            clear HE HC HW
            go_wp2_with fail
            exact bodyPost_ret (v := .agg #[.int .i64 id, .int .i64 ls, .slice ra2 (L.length + 1) rc2]) (by simp [results, Try.results39, go_sem, *]) rfl ⟨_, _, _, _, _, _, _, _, rfl, by omega, by omega, by omega, (HFN.out _ _ _).2, (HFN.out _ _ _).1, HSR.out⟩
          · go_simp
            obtain ⟨ub, hW⟩ : ∃ y, y = ua.alloc (.cells #[.int .i64 (-1), .int .i64 9999, .int .i64 10000] 2) := ⟨_, rfl⟩
            have hb : Below ua.heap.size ua ub := by rw [hW]; exact below_new _ _
            have hE : ∀ i, i < 3 → ub.cell? ⟨ua.heap.size, 0 + i, none⟩ = some (.int .i64 (FE i)) := fun i hi => by
              rw [hW]
              rcases i with - | - | - | i
              · simp [go_sem, HFE.out]
              · simp [go_sem, HFE.out]
              · simp [go_sem, HFE.out]
              · omega
            have hsl := D0.out.src.lt
            have HES : Hid (ua.heap.size ≠ S) := by show ua.heap.size ≠ S; omega
            replace D0 : Hid (Dl w0 ub S a kk cap z t (.slice ra L.length rc) L) := D0.out.up hb
            replace HTP : Hid (ub.heap[P]? = some (.cells AR 27 (0, 0))) := (hb.block P PX.lt).trans HTP.out
            replace PX := PX.below hb
            replace BX := BX.below hb
            replace hA : ∀ i, i < 4 → ub.cell? ⟨DA, 0 + i, none⟩ = some (.int .i64 (FA i)) := fun i hi => cell_below (hA i hi) hb
            rw [← hW]
            clear hW hb hsl
            generalize ua.heap.size = DE at *
            refine hK.out _ _ PX.2.2.1 (fun hS9 => ?_)
            try simp only [Act.put, List.setIfInBounds_toArray, List.set_cons_zero, List.set_cons_succ]
            clear hK K hS
            have hS := hS9
            clear hS9
            refine wpAnyE_ready (rs := [4]) (by kernel_rfl) (by simp) ?_
            refine AllReadyE.cons rfl (fun K hK => ?_) AllReadyE.nil
            go_simp
            have hlt := Go.block_lt_of_cell (hA 0 (by omega))
            refine (l1Pick_any S a kk cap z t DA 0 4 4 FA ub (by omega) (by omega) (by omega) HAS.out hlt hA D0.out.src).mono ?_
            rintro e ud0 ⟨iA, hiA, rfl, hn⟩
            have hd := hn.dw
            clear hlt hn
            replace D0 : Hid (Dl w0 ud0 S a kk cap z (t + 1) (.slice ra L.length rc) L) := D0.out.dw hd
            replace HTP : Hid (ud0.heap[P]? = some (.cells AR 27 (0, 0))) := (hd.1.block P PX.lt (by have := HPS.out; omega)).trans HTP.out
            replace PX := PX.dw HPS.out hd
            replace BX := BX.dw HBS.out hd
            replace hA : ∀ i, i < 4 → ud0.cell? ⟨DA, 0 + i, none⟩ = some (.int .i64 (FA i)) := fun i hi => by
              have hl := Go.block_lt_of_cell (hA i hi)
              exact (World.cell?_of_block (a := ⟨DA, 0 + i, none⟩) (hd.1.block DA hl (by have := HAS.out; omega))).trans (hA i hi)
            replace hE : ∀ i, i < 3 → ud0.cell? ⟨DE, 0 + i, none⟩ = some (.int .i64 (FE i)) := fun i hi => by
              have hl := Go.block_lt_of_cell (hE i hi)
              exact (World.cell?_of_block (a := ⟨DE, 0 + i, none⟩) (hd.1.block DE hl (by have := HES.out; omega))).trans (hE i hi)
            generalize FA iA = kx at *
            clear hd hiA
            refine hK.out _ _ PX.2.2.1 (fun hS9 => ?_)
            try simp only [Act.put, List.setIfInBounds_toArray, List.set_cons_zero, List.set_cons_succ]
            clear hK K hS
            have hS := hS9
            clear hS9
            obtain ⟨t, ht⟩ : ∃ y : Nat, y = t + 1 ∧ y ≤ t0 + 45 := ⟨_, rfl, by omega⟩
            rw [← ht.1] at D0
            replace ht := ht.2
            refine wpAnyE_ready (rs := [7]) (by kernel_rfl) (by simp) ?_
            refine AllReadyE.cons rfl (fun K hK => ?_) AllReadyE.nil
            go_simp
            have hlt := Go.block_lt_of_cell (hE 0 (by omega))
            refine (l1Pick_any S a kk cap z t DE 0 3 3 FE ud0 (by omega) (by omega) (by omega) HES.out hlt hE D0.out.src).mono ?_
            rintro e ue0 ⟨iE, hiE, rfl, hn⟩
            have hd := hn.dw
            clear hlt hn
            replace D0 : Hid (Dl w0 ue0 S a kk cap z (t + 1) (.slice ra L.length rc) L) := D0.out.dw hd
            replace HTP : Hid (ue0.heap[P]? = some (.cells AR 27 (0, 0))) := (hd.1.block P PX.lt (by have := HPS.out; omega)).trans HTP.out
            replace PX := PX.dw HPS.out hd
            replace BX := BX.dw HBS.out hd
            replace hA : ∀ i, i < 4 → ue0.cell? ⟨DA, 0 + i, none⟩ = some (.int .i64 (FA i)) := fun i hi => by
              have hl := Go.block_lt_of_cell (hA i hi)
              exact (World.cell?_of_block (a := ⟨DA, 0 + i, none⟩) (hd.1.block DA hl (by have := HAS.out; omega))).trans (hA i hi)
            replace hE : ∀ i, i < 3 → ue0.cell? ⟨DE, 0 + i, none⟩ = some (.int .i64 (FE i)) := fun i hi => by
              have hl := Go.block_lt_of_cell (hE i hi)
              exact (World.cell?_of_block (a := ⟨DE, 0 + i, none⟩) (hd.1.block DE hl (by have := HES.out; omega))).trans (hE i hi)
            generalize FE iE = vx at *
            clear hd hiE
            refine hK.out _ _ PX.2.2.1 (fun hS9 => ?_)
            try simp only [Act.put, List.setIfInBounds_toArray, List.set_cons_zero, List.set_cons_succ]
            clear hK K hS
            have hS := hS9
            clear hS9
            obtain ⟨t, ht⟩ : ∃ y : Nat, y = t + 1 ∧ y ≤ t0 + 50 := ⟨_, rfl, by omega⟩
            rw [← ht.1] at D0
            replace ht := ht.2
            refine wpAnyE_takeD (L := 12) (i := 8) (v := .agg #[.int .i64 kx, .int .i64 vx]) (some 30) rfl rfl (by kernel_rfl) (by kernel_rfl) (by kernel_rfl) (by kernel_rfl) (fun _ _ _ h => h) (Or.inl ⟨by kernel_rfl, by intro u hSu; go_simp⟩) hS ?_
            try simp only [Act.put, List.setIfInBounds_toArray, List.set_cons_zero, List.set_cons_succ]
            refine wpAnyE_ready (rs := [9]) (by kernel_rfl) (by simp) ?_
            refine AllReadyE.cons rfl (fun K hK => ?_) AllReadyE.nil
            go_simp
            obtain ⟨uc, hW⟩ : ∃ y, y = ue0.alloc (.cells #[.int .i64 kx, .int .i64 vx] 45) := ⟨_, rfl⟩
            have hb : Below ue0.heap.size ue0 uc := by rw [hW]; exact below_new _ _
            have hnw : ∀ j y, [Value.int .i64 kx, Value.int .i64 vx][j]? = some y → uc.cell? ((⟨ue0.heap.size, 0, none⟩ : Addr).add j) = some y := by rw [hW]; exact cell_two_new _ _ _ _
            replace D0 : Hid (Dl w0 uc S a kk cap z t (.slice ra L.length rc) L) := D0.out.up hb
            replace HTP : Hid (uc.heap[P]? = some (.cells AR 27 (0, 0))) := (hb.block P PX.lt).trans HTP.out
            replace PX := PX.below hb
            replace BX := BX.below hb
            rw [← hW]
            clear hW hb
            generalize ue0.heap.size = DC at *
            refine hK.out _ _ PX.2.2.1 (fun hS9 => ?_)
            try simp only [Act.put, List.setIfInBounds_toArray, List.set_cons_zero, List.set_cons_succ]
            clear hK K hS
            have hS := hS9
            clear hS9
            refine wpAnyE_ready (rs := [10]) (by kernel_rfl) (by simp) ?_
            refine AllReadyE.cons rfl (fun K hK => ?_) AllReadyE.nil
            refine step_appD uc (some 32) rfl rfl (.tmp 23) (.tmp 31) rfl w0.heap.size _ L.length (cl L) rfl D0.out.own ⟨DC, 0, none⟩ 1 1 _ rfl rfl hnw (by simp [Value.oneCell']) (by omega) D0.out.ws.size (fun v2 ud ho2 hg2 => ?_)
            have hD := D0.out.app hg2 (kx := kx) (vx := vx) ho2
            have hnP : (Value.slice ra L.length rc).ownBlock ≠ some P := HVP.out
            have hnB : (Value.slice ra L.length rc).ownBlock ≠ some B := HVB.out
            replace PX := PX.block (hg2.block P PX.lt (fun e => hnP e.symm))
            replace BX := BX.block (hg2.block B BX.lt (fun e => hnB e.symm))
            have HD2 : Hid (Dl w0 ud S a kk cap z t v2 (L ++ [(kx, vx)])) := hD
            have HN2 : Hid (v2.ownBlock ≠ some P) := own_off hg2 ho2 HTP.out (by decide) hnP
            clear hD ho2 hg2 hnw hnP hnB D0
            refine hK.out _ _ PX.2.2.1 (fun hS9 => ?_)
            try simp only [Act.put, List.setIfInBounds_toArray, List.set_cons_zero, List.set_cons_succ]
            clear hK K hS
            have hS := hS9
            clear hS9
            refine wpAnyE_takeD (L := 12) (i := 11) (v := .pointer (some ⟨P, 2, none⟩)) (some 33) rfl rfl (by kernel_rfl) (by kernel_rfl) (by kernel_rfl) (by kernel_rfl) (fun _ _ _ h => h) (Or.inl ⟨by kernel_rfl, by intro u hSu; go_simp⟩) hS ?_
            try simp only [Act.put, List.setIfInBounds_toArray, List.set_cons_zero, List.set_cons_succ]
            refine wpAnyE_ready (rs := [12]) (by kernel_rfl) (by simp) ?_
            refine AllReadyE.last rfl (fun K hK => ?_)
            obtain ⟨ra2, rc2, rfl, hrc2, hca2⟩ := cells_shape HD2.out.own
            have hlen : (L ++ [(kx, vx)]).length = L.length + 1 := by simp
            rw [hlen] at hrc2
            replace HD2 : Hid (Dl w0 ud S a kk cap z t (.slice ra2 (L.length + 1) rc2) (L ++ [(kx, vx)])) := by have := HD2.out; rw [hlen] at this; exact this
            replace HN2 : Hid ((Value.slice ra2 (L.length + 1) rc2).ownBlock ≠ some P) := by have := HN2.out; rw [hlen] at this; exact this
            obtain ⟨p0, p1, p2, pf⟩ := PX
            go_simp
            refine hK.out _ _ ?_
            clear hK K hS
            refine wpAnyE_done (by kernel_rfl) ?_ _
            go_simp
            obtain ⟨ue, hW⟩ : ∃ y, y = ud.setCell ⟨P, 2, none⟩ (.slice ra2 (L.length + 1) rc2) := ⟨_, rfl⟩
            have D3 := HD2.out.set HPW.out HN2.out 2 (.slice ra2 (L.length + 1) rc2)
            rw [← hW] at D3
            have PX : BxP ue P (.int .i64 id) (.int .i64 ls) (.slice ra2 (L.length + 1) rc2) := by rw [hW]; exact ⟨(setO (by omega)).trans p0, (setO (by omega)).trans p1, setS p2, fun i => by rw [World.frozen?_setCell]; exact pf i⟩
            replace BX : BxP ue B (.int .i64 0) (.int .i64 0) (.slice none 0 0) := BX.block (by rw [hW]; exact Below.heap_setCell _ _ _ _ (by show ¬ B = P; exact Ne.symm HPB.out))
            have HC : Hid (Cn w0.heap.size ue ra2 (L.length + 1) (kOf (L ++ [(kx, vx)])) (vOf (L ++ [(kx, vx)]))) := by have := D3.cn; rw [hlen] at this; exact this
            have HW : Hid (Dw S a kk cap z t w ue) := HW0.out.trans ⟨D3.ws, D3.src⟩
            have hl13 : L.length + 1 ≤ 13 := by omega
            replace HSR : Hid (∃ b off, ra2 = some ⟨b, off, none⟩) := own_some D3.own (own_not D3.own (by simp))
            rw [← hW]
            clear hW D3 p0 p1 p2 pf HD2 HN2 hca2 hlen
            have HE := HC.out
            have HFN : Hid (∀ u0 u1 u2 : Value, _) := fun u0 u1 u2 => bent_end HW.out HE HSl.out HBw.out HBM.out u0 u1 u2
            obtain ⟨p0, p1, p2, -⟩ := PX
            obtain ⟨q0, q1, q2, qf⟩ := BX
            clear HE HC HW
            go_wp2_with fail
            exact bodyPost_ret (v := .agg #[.int .i64 id, .int .i64 ls, .slice ra2 (L.length + 1) rc2]) (by simp [results, Try.results39, go_sem, *]) rfl ⟨_, _, _, _, _, _, _, _, rfl, by omega, by omega, by omega, (HFN.out _ _ _).2, (HFN.out _ _ _).1, HSR.out⟩
        · go_simp
          obtain ⟨ua, hW⟩ : ∃ y, y = u0.alloc (.cells #[.int .i64 (-1), .int .i64 9999, .int .i64 10000] 2) := ⟨_, rfl⟩
          have hb : Below u0.heap.size u0 ua := by rw [hW]; exact below_new _ _
          have hE : ∀ i, i < 3 → ua.cell? ⟨u0.heap.size, 0 + i, none⟩ = some (.int .i64 (FE i)) := fun i hi => by
            rw [hW]
            rcases i with - | - | - | i
            · simp [go_sem, HFE.out]
            · simp [go_sem, HFE.out]
            · simp [go_sem, HFE.out]
            · omega
          have hsl := D0.out.src.lt
          have HES : Hid (u0.heap.size ≠ S) := by show u0.heap.size ≠ S; omega
          replace D0 : Hid (Dl w0 ua S a kk cap z t (.slice ra L.length rc) L) := D0.out.up hb
          replace HTP : Hid (ua.heap[P]? = some (.cells AR 27 (0, 0))) := (hb.block P PX.lt).trans HTP.out
          replace PX := PX.below hb
          replace BX := BX.below hb
          rw [← hW]
          clear hW hb hsl
          generalize u0.heap.size = DE at *
          refine hK.out _ _ PX.2.2.1 (fun hS9 => ?_)
          try simp only [Act.put, List.setIfInBounds_toArray, List.set_cons_zero, List.set_cons_succ]
          clear hK K hS
          have hS := hS9
          clear hS9
          refine wpAnyE_ready (rs := [3]) (by kernel_rfl) (by simp) ?_
          refine AllReadyE.cons rfl (fun K hK => ?_) AllReadyE.nil
          go_simp
          obtain ⟨ub, hW⟩ : ∃ y, y = ua.alloc (.cells #[.int .i64 (-1), .int .i64 32, .int .i64 3, .int .i64 31] 2) := ⟨_, rfl⟩
          have hb : Below ua.heap.size ua ub := by rw [hW]; exact below_new _ _
          have hA : ∀ i, i < 4 → ub.cell? ⟨ua.heap.size, 0 + i, none⟩ = some (.int .i64 (FA i)) := fun i hi => by
            rw [hW]
            rcases i with - | - | - | - | i
            · simp [go_sem, HFA.out]
            · simp [go_sem, HFA.out]
            · simp [go_sem, HFA.out]
            · simp [go_sem, HFA.out]
            · omega
          have hsl := D0.out.src.lt
          have HAS : Hid (ua.heap.size ≠ S) := by show ua.heap.size ≠ S; omega
          replace D0 : Hid (Dl w0 ub S a kk cap z t (.slice ra L.length rc) L) := D0.out.up hb
          replace HTP : Hid (ub.heap[P]? = some (.cells AR 27 (0, 0))) := (hb.block P PX.lt).trans HTP.out
          replace PX := PX.below hb
          replace BX := BX.below hb
          replace hE : ∀ i, i < 3 → ub.cell? ⟨DE, 0 + i, none⟩ = some (.int .i64 (FE i)) := fun i hi => cell_below (hE i hi) hb
          rw [← hW]
          clear hW hb hsl
          generalize ua.heap.size = DA at *
          refine hK.out _ _ PX.2.2.1 (fun hS9 => ?_)
          try simp only [Act.put, List.setIfInBounds_toArray, List.set_cons_zero, List.set_cons_succ]
          clear hK K hS
          have hS := hS9
          clear hS9
          refine wpAnyE_ready (rs := [4]) (by kernel_rfl) (by simp) ?_
          refine AllReadyE.cons rfl (fun K hK => ?_) AllReadyE.nil
          go_simp
          have hlt := Go.block_lt_of_cell (hA 0 (by omega))
          refine (l1Pick_any S a kk cap z t DA 0 4 4 FA ub (by omega) (by omega) (by omega) HAS.out hlt hA D0.out.src).mono ?_
          rintro e ud0 ⟨iA, hiA, rfl, hn⟩
          have hd := hn.dw
          clear hlt hn
          replace D0 : Hid (Dl w0 ud0 S a kk cap z (t + 1) (.slice ra L.length rc) L) := D0.out.dw hd
          replace HTP : Hid (ud0.heap[P]? = some (.cells AR 27 (0, 0))) := (hd.1.block P PX.lt (by have := HPS.out; omega)).trans HTP.out
          replace PX := PX.dw HPS.out hd
          replace BX := BX.dw HBS.out hd
          replace hA : ∀ i, i < 4 → ud0.cell? ⟨DA, 0 + i, none⟩ = some (.int .i64 (FA i)) := fun i hi => by
            have hl := Go.block_lt_of_cell (hA i hi)
            exact (World.cell?_of_block (a := ⟨DA, 0 + i, none⟩) (hd.1.block DA hl (by have := HAS.out; omega))).trans (hA i hi)
          replace hE : ∀ i, i < 3 → ud0.cell? ⟨DE, 0 + i, none⟩ = some (.int .i64 (FE i)) := fun i hi => by
            have hl := Go.block_lt_of_cell (hE i hi)
            exact (World.cell?_of_block (a := ⟨DE, 0 + i, none⟩) (hd.1.block DE hl (by have := HES.out; omega))).trans (hE i hi)
          generalize FA iA = kx at *
          clear hd hiA
          refine hK.out _ _ PX.2.2.1 (fun hS9 => ?_)
          try simp only [Act.put, List.setIfInBounds_toArray, List.set_cons_zero, List.set_cons_succ]
          clear hK K hS
          have hS := hS9
          clear hS9
          obtain ⟨t, ht⟩ : ∃ y : Nat, y = t + 1 ∧ y ≤ t0 + 45 := ⟨_, rfl, by omega⟩
          rw [← ht.1] at D0
          replace ht := ht.2
          refine wpAnyE_ready (rs := [7]) (by kernel_rfl) (by simp) ?_
          refine AllReadyE.cons rfl (fun K hK => ?_) AllReadyE.nil
          go_simp
          have hlt := Go.block_lt_of_cell (hE 0 (by omega))
          refine (l1Pick_any S a kk cap z t DE 0 3 3 FE ud0 (by omega) (by omega) (by omega) HES.out hlt hE D0.out.src).mono ?_
          rintro e ue0 ⟨iE, hiE, rfl, hn⟩
          have hd := hn.dw
          clear hlt hn
          replace D0 : Hid (Dl w0 ue0 S a kk cap z (t + 1) (.slice ra L.length rc) L) := D0.out.dw hd
          replace HTP : Hid (ue0.heap[P]? = some (.cells AR 27 (0, 0))) := (hd.1.block P PX.lt (by have := HPS.out; omega)).trans HTP.out
          replace PX := PX.dw HPS.out hd
          replace BX := BX.dw HBS.out hd
          replace hA : ∀ i, i < 4 → ue0.cell? ⟨DA, 0 + i, none⟩ = some (.int .i64 (FA i)) := fun i hi => by
            have hl := Go.block_lt_of_cell (hA i hi)
            exact (World.cell?_of_block (a := ⟨DA, 0 + i, none⟩) (hd.1.block DA hl (by have := HAS.out; omega))).trans (hA i hi)
          replace hE : ∀ i, i < 3 → ue0.cell? ⟨DE, 0 + i, none⟩ = some (.int .i64 (FE i)) := fun i hi => by
            have hl := Go.block_lt_of_cell (hE i hi)
            exact (World.cell?_of_block (a := ⟨DE, 0 + i, none⟩) (hd.1.block DE hl (by have := HES.out; omega))).trans (hE i hi)
          generalize FE iE = vx at *
          clear hd hiE
          refine hK.out _ _ PX.2.2.1 (fun hS9 => ?_)
          try simp only [Act.put, List.setIfInBounds_toArray, List.set_cons_zero, List.set_cons_succ]
          clear hK K hS
          have hS := hS9
          clear hS9
          obtain ⟨t, ht⟩ : ∃ y : Nat, y = t + 1 ∧ y ≤ t0 + 50 := ⟨_, rfl, by omega⟩
          rw [← ht.1] at D0
          replace ht := ht.2
          refine wpAnyE_takeD (L := 12) (i := 8) (v := .agg #[.int .i64 kx, .int .i64 vx]) (some 30) rfl rfl (by kernel_rfl) (by kernel_rfl) (by kernel_rfl) (by kernel_rfl) (fun _ _ _ h => h) (Or.inl ⟨by kernel_rfl, by intro u hSu; go_simp⟩) hS ?_
          try simp only [Act.put, List.setIfInBounds_toArray, List.set_cons_zero, List.set_cons_succ]
          refine wpAnyE_ready (rs := [9]) (by kernel_rfl) (by simp) ?_
          refine AllReadyE.cons rfl (fun K hK => ?_) AllReadyE.nil
          go_simp
          obtain ⟨uc, hW⟩ : ∃ y, y = ue0.alloc (.cells #[.int .i64 kx, .int .i64 vx] 45) := ⟨_, rfl⟩
          have hb : Below ue0.heap.size ue0 uc := by rw [hW]; exact below_new _ _
          have hnw : ∀ j y, [Value.int .i64 kx, Value.int .i64 vx][j]? = some y → uc.cell? ((⟨ue0.heap.size, 0, none⟩ : Addr).add j) = some y := by rw [hW]; exact cell_two_new _ _ _ _
          replace D0 : Hid (Dl w0 uc S a kk cap z t (.slice ra L.length rc) L) := D0.out.up hb
          replace HTP : Hid (uc.heap[P]? = some (.cells AR 27 (0, 0))) := (hb.block P PX.lt).trans HTP.out
          replace PX := PX.below hb
          replace BX := BX.below hb
          rw [← hW]
          clear hW hb
          generalize ue0.heap.size = DC at *
          refine hK.out _ _ PX.2.2.1 (fun hS9 => ?_)
          try simp only [Act.put, List.setIfInBounds_toArray, List.set_cons_zero, List.set_cons_succ]
          clear hK K hS
          have hS := hS9
          clear hS9
          refine wpAnyE_ready (rs := [10]) (by kernel_rfl) (by simp) ?_
          refine AllReadyE.cons rfl (fun K hK => ?_) AllReadyE.nil
          refine step_appD uc (some 32) rfl rfl (.tmp 23) (.tmp 31) rfl w0.heap.size _ L.length (cl L) rfl D0.out.own ⟨DC, 0, none⟩ 1 1 _ rfl rfl hnw (by simp [Value.oneCell']) (by omega) D0.out.ws.size (fun v2 ud ho2 hg2 => ?_)
          have hD := D0.out.app hg2 (kx := kx) (vx := vx) ho2
          have hnP : (Value.slice ra L.length rc).ownBlock ≠ some P := HVP.out
          have hnB : (Value.slice ra L.length rc).ownBlock ≠ some B := HVB.out
          replace PX := PX.block (hg2.block P PX.lt (fun e => hnP e.symm))
          replace BX := BX.block (hg2.block B BX.lt (fun e => hnB e.symm))
          have HD2 : Hid (Dl w0 ud S a kk cap z t v2 (L ++ [(kx, vx)])) := hD
          have HN2 : Hid (v2.ownBlock ≠ some P) := own_off hg2 ho2 HTP.out (by decide) hnP
          clear hD ho2 hg2 hnw hnP hnB D0
          refine hK.out _ _ PX.2.2.1 (fun hS9 => ?_)
          try simp only [Act.put, List.setIfInBounds_toArray, List.set_cons_zero, List.set_cons_succ]
          clear hK K hS
          have hS := hS9
          clear hS9
          refine wpAnyE_takeD (L := 12) (i := 11) (v := .pointer (some ⟨P, 2, none⟩)) (some 33) rfl rfl (by kernel_rfl) (by kernel_rfl) (by kernel_rfl) (by kernel_rfl) (fun _ _ _ h => h) (Or.inl ⟨by kernel_rfl, by intro u hSu; go_simp⟩) hS ?_
          try simp only [Act.put, List.setIfInBounds_toArray, List.set_cons_zero, List.set_cons_succ]
          refine wpAnyE_ready (rs := [12]) (by kernel_rfl) (by simp) ?_
          refine AllReadyE.last rfl (fun K hK => ?_)
          obtain ⟨ra2, rc2, rfl, hrc2, hca2⟩ := cells_shape HD2.out.own
          have hlen : (L ++ [(kx, vx)]).length = L.length + 1 := by simp
          rw [hlen] at hrc2
          replace HD2 : Hid (Dl w0 ud S a kk cap z t (.slice ra2 (L.length + 1) rc2) (L ++ [(kx, vx)])) := by have := HD2.out; rw [hlen] at this; exact this
          replace HN2 : Hid ((Value.slice ra2 (L.length + 1) rc2).ownBlock ≠ some P) := by have := HN2.out; rw [hlen] at this; exact this
          obtain ⟨p0, p1, p2, pf⟩ := PX
          go_simp
          refine hK.out _ _ ?_
          clear hK K hS
          refine wpAnyE_done (by kernel_rfl) ?_ _
          go_simp
          obtain ⟨ue, hW⟩ : ∃ y, y = ud.setCell ⟨P, 2, none⟩ (.slice ra2 (L.length + 1) rc2) := ⟨_, rfl⟩
          have D3 := HD2.out.set HPW.out HN2.out 2 (.slice ra2 (L.length + 1) rc2)
          rw [← hW] at D3
          have PX : BxP ue P (.int .i64 id) (.int .i64 ls) (.slice ra2 (L.length + 1) rc2) := by rw [hW]; exact ⟨(setO (by omega)).trans p0, (setO (by omega)).trans p1, setS p2, fun i => by rw [World.frozen?_setCell]; exact pf i⟩
          replace BX : BxP ue B (.int .i64 0) (.int .i64 0) (.slice none 0 0) := BX.block (by rw [hW]; exact Below.heap_setCell _ _ _ _ (by show ¬ B = P; exact Ne.symm HPB.out))
          have HC : Hid (Cn w0.heap.size ue ra2 (L.length + 1) (kOf (L ++ [(kx, vx)])) (vOf (L ++ [(kx, vx)]))) := by have := D3.cn; rw [hlen] at this; exact this
          have HW : Hid (Dw S a kk cap z t w ue) := HW0.out.trans ⟨D3.ws, D3.src⟩
          have hl13 : L.length + 1 ≤ 13 := by omega
          replace HSR : Hid (∃ b off, ra2 = some ⟨b, off, none⟩) := own_some D3.own (own_not D3.own (by simp))
          rw [← hW]
          clear hW D3 p0 p1 p2 pf HD2 HN2 hca2 hlen
          have HE := HC.out
          have HFN : Hid (∀ u0 u1 u2 : Value, _) := fun u0 u1 u2 => bent_end HW.out HE HSl.out HBw.out HBM.out u0 u1 u2
          obtain ⟨p0, p1, p2, -⟩ := PX
          obtain ⟨q0, q1, q2, qf⟩ := BX
          clear HE HC HW
          go_wp2_with fail
          exact bodyPost_ret (v := .agg #[.int .i64 id, .int .i64 ls, .slice ra2 (L.length + 1) rc2]) (by simp [results, Try.results39, go_sem, *]) rfl ⟨_, _, _, _, _, _, _, _, rfl, by omega, by omega, by omega, (HFN.out _ _ _).2, (HFN.out _ _ _).1, HSR.out⟩
      · by_cases y3 : y = 3
        · subst y3
          have D1 : Hid (∀ ob : Obj, Dl w0 (u.alloc ob) S a kk cap z t (.slice ra L.length rc) L) := fun ob => D0.out.up (below_new _ _)
          have PX1 := fun ob : Obj => PX.below (below_new u ob)
          have BX1 := fun ob : Obj => BX.below (below_new u ob)
          have hpt := PX.lt
          have hzz := D0.out.ws.size
          have HMC : Hid (∀ ob : Obj, ob = .cells (madeCells #[.int .i64 0, .int .i64 0] (13 * 2)) 45 → Own (u.alloc ob) u.heap.size (u.heap.size + 1) (some ⟨u.heap.size, 0, none⟩) 13 (fun _ => 0) (fun _ => 0)) := fun ob h => by
            subst h
            exact Own.of_row (made_cells u 13)
          obtain ⟨Z, hZ, hmk⟩ : ∃ Z : Array Value, Z = madeCells #[.int .i64 0, .int .i64 0] (13 * 2) ∧ ∀ y, (Instr.makeSlice 25 (.int .i64 13) (.int .i64 13)).run Try.prog y = .ok (.slice (some ⟨y.heap.size, 0, none⟩) 13 13) (y.alloc (.cells Z 45)) := ⟨_, rfl, fun y => run_make_cells 13 (by omega) y⟩
          have HO9 : Hid (Own (u.alloc (.cells Z 45)) u.heap.size (u.heap.size + 1) (some ⟨u.heap.size, 0, none⟩) 13 (fun _ => 0) (fun _ => 0)) := HMC.out _ (by rw [hZ])
          obtain ⟨p0, p1, p2, pf⟩ := PX1 (.cells Z 45)
          clear hZ HMC
          go_upto_region 11 with fail
          obtain ⟨ue, hW⟩ : ∃ y, y = (u.alloc (.cells Z 45)).setCell ⟨P, 2, none⟩ (.slice (some ⟨u.heap.size, 0, none⟩) 13 13) := ⟨_, rfl⟩
          have D3 := (D1.out (.cells Z 45)).set HPW.out HVP.out 2 (.slice (some ⟨u.heap.size, 0, none⟩) 13 13)
          rw [← hW] at D3
          have HC : Hid (Cn w0.heap.size ue (some ⟨u.heap.size, 0, none⟩) 13 (fun _ => 0) (fun _ => 0)) := by
            have h := own_cn HO9.out
            rw [hW]
            exact (h.set (B := P) (by omega) 2 _).lower hzz
          have PX : BxP ue P (.int .i64 id) (.int .i64 ls) (.slice (some ⟨u.heap.size, 0, none⟩) 13 13) := by rw [hW]; exact ⟨(setO (by omega)).trans p0, (setO (by omega)).trans p1, setS p2, fun i => by rw [World.frozen?_setCell]; exact pf i⟩
          replace BX : BxP ue B (.int .i64 0) (.int .i64 0) (.slice none 0 0) := (BX1 _).block (by rw [hW]; exact Below.heap_setCell _ _ _ _ (by show ¬ B = P; exact Ne.symm HPB.out))
          have HW : Hid (Dw S a kk cap z t w ue) := HW0.out.trans ⟨D3.ws, D3.src⟩
          have hW2 : ue = (u.setCell ⟨P, 2, none⟩ (.slice (some ⟨u.heap.size, 0, none⟩) 13 13)).alloc (.cells Z 45) := hW.trans (World.setCell_alloc_past _ _ _ _ hpt)
          rw [← hW2]
          clear hW hW2 D3 p0 p1 p2 pf D1 PX1 BX1 HO9 hmk hpt hzz
          generalize u.heap.size = GG at *
          replace HSR : Hid (∃ b off, (some ⟨GG, 0, none⟩ : Option Addr) = some ⟨b, off, none⟩) := ⟨GG, 0, rfl⟩
          have HE := HC.out
          have HFN : Hid (∀ u0 u1 u2 : Value, _) := fun u0 u1 u2 => bent_end HW.out HE HSl.out HBw.out HBM.out u0 u1 u2
          obtain ⟨p0, p1, p2, -⟩ := PX
          obtain ⟨q0, q1, q2, qf⟩ := BX
          clear HE HC HW
          go_wp2_with fail
          exact bodyPost_ret (v := .agg #[.int .i64 id, .int .i64 ls, .slice (some ⟨GG, 0, none⟩) 13 13]) (by simp [results, Try.results39, go_sem, *]) rfl ⟨_, _, _, _, _, _, _, _, rfl, by omega, by omega, by omega, (HFN.out _ _ _).2, (HFN.out _ _ _).1, HSR.out⟩
        · have z0 : (y == 0) = false := by simp [y0]
          have z1 : (y == 1) = false := by simp [y1]
          have z2 : (y == 2) = false := by simp [y2]
          have z3 : (y == 3) = false := by simp [y3]
          have HC : Hid (Cn w0.heap.size u ra L.length (kOf L) (vOf L)) := D0.out.cn
          have HW : Hid (Dw S a kk cap z t w u) := HW0.out.trans ⟨D0.out.ws, D0.out.src⟩
          have HE := HC.out
          have HFN : Hid (∀ u0 u1 u2 : Value, _) := fun u0 u1 u2 => bent_end HW.out HE HSl.out HBw.out HBM.out u0 u1 u2
          obtain ⟨p0, p1, p2, -⟩ := PX
          obtain ⟨q0, q1, q2, qf⟩ := BX
          clear HE HC HW
          go_wp2_with fail
          exact bodyPost_ret (v := .agg #[.int .i64 id, .int .i64 ls, .slice ra L.length rc]) (by simp [results, Try.results39, go_sem, *]) rfl ⟨_, _, _, _, _, _, _, _, rfl, by omega, by omega, by omega, (HFN.out _ _ _).2, (HFN.out _ _ _).1, HSR.out⟩
end Go.Proofs.Ytnhkjdcbaphfcaa
