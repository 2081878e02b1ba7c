/- An engine's rows while undos are taken back. -/
import Derived.Test.YtabkgncnanlapaaGreatQRla
import Derived.Test.YtabkgncnanlapaaGreatQRlb
import Derived.Test.YtabkgncnanlapaaGreatQPgf
import Derived.Test.YtabkgncnanlapaaGreatQPgg
import Derived.Test.YtabkgncnanlapaaGreatQSca
namespace Go.Proofs.YtabkgncnanlapaaGreat
open Go.RowKit Go.Deep
set_option linter.unusedVariables false
set_option maxRecDepth 20000

/-- The box of an engine, its rows behind m undos, and what they hold. -/
structure RlI (W wr : World) (B : Nat) (nx ck : Int) (tsl : Value) (id : Int) (U : Nat → Ud) (n : Nat) (rs : List Rw) (m lo : Nat) (ra : Option Addr) (rc q : Nat) (xs : List HRw) : Prop where
  writes : Writes B (B + 1) W wr
  box : Box4 wr B (.int .i64 nx) (.int .i64 ck) tsl (.slice ra q rc)
  frz : ∀ i, wr.frozen? ⟨B, i, none⟩ = false
  len : xs.length = q
  own : wr.ownsRow lo 87 2 (.slice ra q rc) q (hbRw xs)
  data : xs.map HRw.t = unL id U n rs m
  ap : ApRw xs
  ct : ∀ x ∈ xs, CtRw wr lo wr.heap.size x
  far : ∀ g off, ra = some ⟨g, off, none⟩ → g ≠ B ∧ ∀ x ∈ xs, g < x.l ∨ x.h ≤ g
  farB : ∀ x ∈ xs, B < x.l ∨ x.h ≤ B
theorem RlI.at_ {W wr : World} {B : Nat} {nx ck : Int} {tsl : Value} {id : Int} {U : Nat → Ud} {n : Nat} {rs : List Rw} {m lo : Nat} {ra : Option Addr} {rc q : Nat} {xs : List HRw} (h : RlI W wr B nx ck tsl id U n rs m lo ra rc q xs) : HAtRw wr ra xs := by
  obtain ⟨a, c, e, _, hat⟩ := HAtRw.of_row h.len h.own
  injection e with e
  subst e
  exact hat
theorem RlI.rows {W wr : World} {B : Nat} {nx ck : Int} {tsl : Value} {id : Int} {U : Nat → Ud} {n : Nat} {rs : List Rw} {m lo : Nat} {ra : Option Addr} {rc q : Nat} {xs : List HRw} (h : RlI W wr B nx ck tsl id U n rs m lo ra rc q xs) : RwsAt wr ra q (fun i => (xs.map HRw.t).getD i zRw) := by
  rcases h.at_ with h1 | ⟨b, off, e, hl, hc⟩
  · left
    rw [← h.len, h1]
    rfl
  · refine .inr ⟨b, off, e, hl, fun i hi => ?_⟩
    obtain ⟨x, gi⟩ : ∃ x, xs[i]? = some x := ⟨_, List.getElem?_eq_getElem (by rw [h.len]; exact hi)⟩
    have e2 : (xs.map HRw.t).getD i zRw = x.t := by simp [List.getD_eq_getElem?_getD, gi]
    have hx := h.ct _ (List.mem_of_getElem? gi)
    show ∃ ai ci, CRw wr b (off + i * 2) ((xs.map HRw.t).getD i zRw) ai ci ∧ VersAt wr ai ((xs.map HRw.t).getD i zRw).n ((xs.map HRw.t).getD i zRw).U ∧ ((xs.map HRw.t).getD i zRw).n ≤ ci
    rw [e2]
    exact ⟨_, _, hc i _ gi, hx.2.2.at, hx.2.1⟩
theorem RlI.below {W wr u : World} {B : Nat} {nx ck : Int} {tsl : Value} {id : Int} {U : Nat → Ud} {n : Nat} {rs : List Rw} {m lo : Nat} {ra : Option Addr} {rc q : Nat} {xs : List HRw} (h : RlI W wr B nx ck tsl id U n rs m lo ra rc q xs) (hb : Below wr.heap.size wr u) : RlI W u B nx ck tsl id U n rs m lo ra rc q xs := by
  have hB : B < wr.heap.size := Go.block_lt_of_cell h.box.1
  have hz := hb.size
  exact ⟨h.writes.trans (Writes.of_below hb), h.box.below hb, fun i => (World.frozen?_of_block (w := wr) (a := ⟨B, i, none⟩) (hb.block B hB)).trans (h.frz i), h.len, own_belowI h.own hb, h.data, h.ap, fun x hx => ((h.ct x hx).below hb).mono (Nat.le_refl _) hz, h.far, h.farB⟩
/-- Where a key's row is. -/
theorem Fit.find {U : Nat → Ud} {k : Nat} {xs : List HRw} (h : Fit U (k + 1) (xs.map HRw.t)) : ∃ (p : Nat) (x0 : HRw), xs[p]? = some x0 ∧ x0.t.key = (U k).k ∧ 0 < x0.t.n ∧ fR xs.length (fun i => (xs.map HRw.t).getD i zRw) (U k).k = (p : Int) := by
  obtain ⟨r, hr, e⟩ := h.has k (Nat.lt_succ_self _)
  obtain ⟨x0, hx, rfl⟩ := List.mem_map.1 hr
  obtain ⟨p, hp, rfl⟩ := List.mem_iff_getElem.1 hx
  have gp := List.getElem?_eq_getElem (l := xs) (i := p) hp
  have e2 : (xs.map HRw.t).getD p zRw = xs[p].t := by simp [List.getD_eq_getElem?_getD, gp]
  refine ⟨p, xs[p], gp, e, h.pos _ hr, ?_⟩
  have hs : ∀ j, j < xs.length → ∀ i, i < j → ((xs.map HRw.t).getD i zRw).key < ((xs.map HRw.t).getD j zRw).key := fun j hj i hi => by
    have h1 := List.pairwise_iff_getElem.1 h.ri i j (by simp; omega) (by simp; omega) hi
    simp only [List.getD_eq_getElem?_getD]
    rw [List.getElem?_eq_getElem (by simp; omega), List.getElem?_eq_getElem (by simp; omega)]
    exact h1
  have := fR_self (R := fun i => (xs.map HRw.t).getD i zRw) hs hp
  simp only [e2, e] at this
  exact this
theorem Fit.rising {U : Nat → Ud} {k : Nat} {xs : List HRw} (h : Fit U k (xs.map HRw.t)) : RiRw xs := (List.pairwise_map (f := HRw.t) (R := fun x y : Rw => x.key < y.key)).1 h.ri
/-- The list of rows, one set. -/
theorem setH_data {xs : List HRw} {p : Nat} {x0 y : HRw} {id : Int} {u : Ud} (hri : RiRw xs) (hpos : ∀ x ∈ xs, 0 < x.t.n) (hp : xs[p]? = some x0) (hk : x0.t.key = u.k) (hy : y.t = tkR id u x0.t) : (setH xs p y).map HRw.t = tkL id u (xs.map HRw.t) := by
  obtain ⟨hlt, e0⟩ := List.getElem?_eq_some_iff.1 hp
  have hx : xs = xs.take p ++ x0 :: xs.drop (p + 1) := by
    rw [← e0, ← List.drop_eq_getElem_cons hlt, List.take_append_drop]
  have hoth : ∀ i x, xs[i]? = some x → i ≠ p → x.t.key ≠ u.k := fun i x hi hne e => by
    obtain ⟨i1, e1⟩ := List.getElem?_eq_some_iff.1 hi
    rcases Nat.lt_trichotomy i p with c | c | c
    · have h9 := List.pairwise_iff_getElem.1 hri i p i1 hlt c
      unfold keyRw at h9
      rw [e1, e0, e, hk] at h9
      omega
    · exact hne c
    · have h9 := List.pairwise_iff_getElem.1 hri p i hlt i1 c
      unfold keyRw at h9
      rw [e1, e0, e, hk] at h9
      omega
  have hsame : ∀ l : List HRw, (∀ x ∈ l, x ∈ xs ∧ x.t.key ≠ u.k) → ((l.map HRw.t).map (tkF id u)).filter (fun r => decide (0 < r.n)) = l.map HRw.t := by
    intro l hl
    induction l with
    | nil => rfl
    | cons a l ih =>
      have h1 := hl a (List.mem_cons_self ..)
      have h2 := ih fun x hx => hl x (List.mem_cons_of_mem _ hx)
      have h3 : tkF id u a.t = a.t := if_neg h1.2
      have h4 := hpos a h1.1
      simp only [List.map_cons, h3]
      rw [List.filter_cons_of_pos (by simpa using h4), h2]
  have ht := hsame (xs.take p) fun x hx => by
    obtain ⟨i, hi, rfl⟩ := List.mem_iff_getElem.1 hx
    have hi2 : i < p := by simp at hi; omega
    refine ⟨List.mem_of_mem_take hx, ?_⟩
    rw [List.getElem_take]
    exact hoth i _ (List.getElem?_eq_getElem (by omega)) (by omega)
  have hd := hsame (xs.drop (p + 1)) fun x hx => by
    obtain ⟨i, hi, rfl⟩ := List.mem_iff_getElem.1 hx
    have hi2 : p + 1 + i < xs.length := by simp at hi; omega
    refine ⟨List.mem_of_mem_drop hx, ?_⟩
    rw [List.getElem_drop]
    exact hoth (p + 1 + i) _ (List.getElem?_eq_getElem hi2) (by omega)
  have hm : tkF id u x0.t = y.t := by rw [hy]; exact if_pos hk
  conv => rhs; rw [hx]
  unfold tkL setH
  rw [List.map_append, List.map_append, List.map_append (f := HRw.t) (l₁ := xs.take p) (l₂ := x0 :: xs.drop (p + 1)), List.map_append, List.filter_append, ht, List.append_assoc]
  congr 1
  rw [List.map_cons, List.map_cons, hm]
  by_cases hn : y.t.n = 0
  · rw [if_pos hn, List.filter_cons_of_neg (by simp [hn]), hd]
    rfl
  · rw [if_neg hn, List.filter_cons_of_pos (by simp; omega), hd]
    rfl
theorem setH_mem {xs : List HRw} {p : Nat} {y x : HRw} (h : x ∈ setH xs p y) : x ∈ xs ∨ x = y := by
  unfold setH at h
  rcases List.mem_append.1 h with h | h
  · rcases List.mem_append.1 h with h | h
    · exact .inl (List.mem_of_mem_take h)
    · split at h
      · simp at h
      · exact .inr (by simpa using h)
  · exact .inl (List.mem_of_mem_drop h)
theorem setH_ap {xs : List HRw} {p N : Nat} {y : HRw} (h : ApRw xs) (hx : ∀ x ∈ xs, x.h ≤ N) (hy : N ≤ y.l) : ApRw (setH xs p y) := by
  have hm : ∀ z ∈ (if y.t.n = 0 then [] else [y] : List HRw), z = y := fun z hz => by
    split at hz
    · simp at hz
    · simpa using hz
  unfold setH ApRw
  rw [List.append_assoc]
  refine List.pairwise_append.2 ⟨h.sublist (List.take_sublist _ _), List.pairwise_append.2 ⟨?_, h.sublist (List.drop_sublist _ _), fun a ha b hb => ?_⟩, fun a ha b hb => ?_⟩
  · split <;> simp
  · rw [hm a ha]
    have := hx b (List.mem_of_mem_drop hb)
    right
    omega
  · rcases List.mem_append.1 hb with hb | hb
    · rw [hm b hb]
      have := hx a (List.mem_of_mem_take ha)
      left
      omega
    · have hsub : List.Sublist (xs.take p ++ xs.drop (p + 1)) xs := by
        conv => rhs; rw [← List.take_append_drop p xs]
        exact List.Sublist.append (List.Sublist.refl _) (by rw [← List.drop_drop]; exact List.drop_sublist _ _)
      exact (List.pairwise_append.1 (h.sublist hsub)).2.2 a ha b hb
/-- One undo more is taken back. -/
theorem RlI.step {W wr u u2 : World} {B : Nat} {nx ck : Int} {tsl : Value} {id : Int} {U : Nat → Ud} {n : Nat} {rs : List Rw} {m lo : Nat} {ra ra2 : Option Addr} {rc q rc2 q2 p : Nat} {xs : List HRw} {x0 y : HRw} (h : RlI W wr B nx ck tsl id U n rs m lo ra rc q xs)
    (hb : Below wr.heap.size wr u) (hb2 : Below u.heap.size u u2) (hlo : lo ≤ wr.heap.size) (hm : m < n) (hpos : ∀ x ∈ xs, 0 < x.t.n) (hri : RiRw xs) (hp : xs[p]? = some x0) (hk : x0.t.key = (U (n - 1 - m)).k) (hy : y.t = tkR id (U (n - 1 - m)) x0.t) (hyl : y.l = wr.heap.size) (hyh : y.h ≤ u.heap.size) (hyc : y.t.n ≤ y.c) (hyo : Own4 u y.l y.h y.A y.t.n y.t.U)
    (hq : (setH xs p y).length = q2) (ho : u2.ownsRow u.heap.size 87 2 (.slice ra2 q2 rc2) q2 (hbRw (setH xs p y))) : RlI W (u2.setCell ⟨B, 3, none⟩ (.slice ra2 q2 rc2)) B nx ck tsl id U n rs (m + 1) lo ra2 rc2 q2 (setH xs p y) := by
  have hB : B < wr.heap.size := Go.block_lt_of_cell h.box.1
  have hz := hb.size
  have hz2 := hb2.size
  have hz9 : (u2.setCell ⟨B, 3, none⟩ (.slice ra2 q2 rc2)).heap.size = u2.heap.size := by simp [World.setCell]
  have hw9 : Writes B (B + 1) u2 (u2.setCell ⟨B, 3, none⟩ (.slice ra2 q2 rc2)) := Writes.setCell (Writes.refl _ _ _) (p := ⟨B, 3, none⟩) (Nat.le_refl _) (Nat.lt_succ_self _) _
  have h2 := h.below (below_then hb hb2)
  obtain ⟨b0, b1, b2, b3⟩ := h2.box
  refine ⟨h2.writes.trans hw9, ⟨(setO (by omega)).trans b0, (setO (by omega)).trans b1, (setO (by omega)).trans b2, World.cell?_setCell_same _ _ _ b3⟩, fun i => by rw [World.frozen?_setCell]; exact h2.frz i, hq, ?_, ?_, ?_, ?_, ?_, ?_⟩
  · exact row_base (row_set ho (by omega)) (by omega)
  · rw [setH_data hri hpos hp hk hy, h.data]
    rfl
  · refine setH_ap (N := wr.heap.size) h.ap (fun x hx => ?_) (by omega)
    have := (h.ct x hx).1
    omega
  · intro x hx
    rcases setH_mem hx with hx | rfl
    · obtain ⟨k1, k2, k3⟩ := h2.ct x hx
      have hf := h.farB x hx
      exact ⟨by rw [hz9]; exact k1, k2, k3.writes hw9 (by omega)⟩
    · exact ⟨by rw [hz9]; omega, hyc, (hyo.below hb2).writes hw9 (by omega)⟩
  · intro g off e
    subst e
    have hg := ho.lt g rfl
    refine ⟨by omega, fun x hx => ?_⟩
    rcases setH_mem hx with hx | rfl
    · have := (h.ct x hx).1
      omega
    · omega
  · intro x hx
    rcases setH_mem hx with hx | rfl
    · exact h.farB x hx
    · omega
end Go.Proofs.YtabkgncnanlapaaGreat
