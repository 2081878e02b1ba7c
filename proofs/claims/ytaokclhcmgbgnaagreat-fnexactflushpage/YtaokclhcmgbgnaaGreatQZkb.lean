/- impl.PlaceDisk: an answer that is a disk. -/
import Derived.Test.YtaokclhcmgbgnaaGreatQZeh
import Derived.Test.YtaokclhcmgbgnaaGreatQRe
import Derived.Test.YtaokclhcmgbgnaaGreatQAo
import Derived.Test.YtaokclhcmgbgnaaGreatQLn
import Derived.Test.YtaokclhcmgbgnaaGreatQZdb
import Derived.Test.YtaokclhcmgbgnaaGreatQDg
namespace Go.Proofs.YtaokclhcmgbgnaaGreat
open Go.ChangeShapes Go.WideShapes Go.ChangeAt Go.RowKit Go.Deep Go.Joins
set_option linter.unusedVariables false
set_option linter.unusedSimpArgs false
set_option maxRecDepth 20000
open Go.RowKit Go.Deep

theorem WkF.trans {col col1 : Nat → Nat} {B : Nat} {a b c : World} (h1 : WkF col B a b) (h2 : WkF col1 B b c) (hc : ∀ x, x < a.heap.size → col1 x ≠ 0 → col x ≠ 0) : WkF col B a c :=
  ⟨h2.os.trans h1.os, h2.tape.trans h1.tape, h2.output.trans h1.output, Nat.le_trans h1.size h2.size, fun x hx hn => (h2.block x (Nat.lt_of_lt_of_le hx h1.size) (fun q => hn (q.imp id (hc x hx)))).trans (h1.block x hx hn)⟩
theorem WkF.of_writes {col : Nat → Nat} {B : Nat} {w w' : World} (h : Writes B (B + 1) w w') : WkF col B w w' := ⟨h.os, h.tape, h.output, h.size, fun x hx hn => h.block x hx (by have : x ≠ B := fun e => hn (.inl e); omega)⟩
theorem rcn_spec (z : Nat → Int) (n : Nat) : ∀ f k, n ≤ f + k → (∀ j, j < k → 13 * (j + 1) ≤ n ∧ okR (sh z (13 * j)) = true) → (∀ j, j < rcn z n f k → 13 * (j + 1) ≤ n ∧ okR (sh z (13 * j)) = true) ∧ ¬ (13 * (rcn z n f k + 1) ≤ n ∧ okR (sh z (13 * rcn z n f k)) = true)
  | 0, k, hf, h => by
    simp only [rcn]
    exact ⟨h, fun e => by omega⟩
  | f + 1, k, hf, h => by
    unfold rcn
    split
    · rename_i hh
      refine rcn_spec z n f (k + 1) (by omega) fun j hj => ?_
      by_cases e : j = k
      · subst e; exact hh
      · exact h j (by omega)
    · rename_i hh
      exact ⟨h, hh⟩
theorem cnt_spec (z : Nat → Int) (n : Nat) : (∀ j, j < cnt z n → 13 * (j + 1) ≤ n ∧ okR (sh z (13 * j)) = true) ∧ ¬ (13 * (cnt z n + 1) ≤ n ∧ okR (sh z (13 * cnt z n)) = true) :=
  rcn_spec z n n 0 (by omega) fun j hj => by omega
theorem num_eq {z y : Nat → Int} {i : Nat} : ∀ {m : Nat}, (∀ j, j < m → z (i + j) = y (i + j)) → num z i m = num y i m
  | 0, _ => rfl
  | m + 1, h => by simp only [num]; rw [num_eq (m := m) fun j hj => h j (by omega), h m (by omega)]
theorem okR_congr {z y : Nat → Int} (h : ∀ i, i < 13 → z i = y i) : okR z = okR y := by
  have n0 : num z 0 1 = num y 0 1 := num_eq fun j hj => h _ (by omega)
  have n1 : num z 1 2 = num y 1 2 := num_eq fun j hj => h _ (by omega)
  have n3 : num z 3 1 = num y 3 1 := num_eq fun j hj => h _ (by omega)
  have n5 : num z 5 2 = num y 5 2 := num_eq fun j hj => h _ (by omega)
  have n7 : num z 7 2 = num y 7 2 := num_eq fun j hj => h _ (by omega)
  have n9 : num z 9 2 = num y 9 2 := num_eq fun j hj => h _ (by omega)
  have h4 := h 4 (by omega)
  have e1 : hdB z = hdB y := by simp only [hdB, h4]
  have e2 : hsB z = hsB y := by simp only [hsB, h4]
  have e3 : zL z 13 = zL y 13 := by
    unfold zL
    exact List.map_congr_left fun i hi => h i (List.mem_range.1 hi)
  unfold okR rzF rzB
  rw [n0, n1, n3, n5, n7, n9, e1, e2, e3]
theorem aZ_at (L : Lo) (i : Nat) (hi : i < L.n1 + L.n2) : aZ L i = if i < L.n1 then L.z1 i else L.z2 (i - L.n1) := by
  unfold aZ zOf aL
  by_cases h : i < L.n1
  · rw [if_pos h, List.getD_eq_getElem?_getD, List.getElem?_append_left (by rw [zL_len]; exact h)]
    simp [zL, h]
  · rw [if_neg h, List.getD_eq_getElem?_getD, List.getElem?_append_right (by rw [zL_len]; omega), zL_len]
    have : i - L.n1 < L.n2 := by omega
    simp [zL, this]
/-- A store with another log. -/
def lgG (s : Sto) (g : Lo) : Sto := ⟨s.nx, s.pn, s.pT, s.d, g, s.hn, s.hK, s.hV, s.on, s.oF⟩
theorem Wk.logG {s : Sto} {n : Nat} {xs : List Value} {lo : Nat} {col : Nat → Nat} {B l h d1 d2 : Nat} {w : World} {x1 x2 : Option Addr} {G : Lo} (H : Wk s n xs lo col B w) (hll : lo ≤ l) (hlh : l ≤ h) (hh : h ≤ w.heap.size) (hc : ∀ x, l ≤ x → x < h → col x = 0 ∧ x ≠ B) (hg : OwnG w l h x1 x2 G) :
    Wk (lgG s G) n xs lo (colr col l h 3) B ((w.setCell ⟨B, 4, none⟩ (.slice x1 G.n1 d1)).setCell ⟨B, 5, none⟩ (.slice x2 G.n2 d2)) := by
  obtain ⟨b0, e0, b1, e1, b2, e2, b3, e3, b4, e4, b5, e5, b6, e6, ra, rc, h1, ⟨h2, h3, h4, h5, h6, h7, h8, h9⟩, g1, g2, g3, g4, g5, g6, g7⟩ := H
  obtain ⟨W, hW⟩ : ∃ x, x = (w.setCell ⟨B, 4, none⟩ (.slice x1 G.n1 d1)).setCell ⟨B, 5, none⟩ (.slice x2 G.n2 d2) := ⟨_, rfl⟩
  have hw : Writes B (B + 1) w W := by rw [hW]; exact ((Writes.refl _ _ _).setCell (p := ⟨B, 4, none⟩) (Nat.le_refl _) (Nat.lt_succ_self _) _).setCell (p := ⟨B, 5, none⟩) (Nat.le_refl _) (Nat.lt_succ_self _) _
  have hbx : BoxS W B (.int .i64 s.nx) (.slice b0 s.pn e0) (.slice b1 s.d.n e1) (.slice b2 s.d.m e2) (.slice x1 G.n1 d1) (.slice x2 G.n2 d2) (.slice b5 s.hn e5) (.slice b6 s.on e6) := by
    rw [hW]
    refine ⟨?_, ?_, ?_, ?_, ?_, ?_, ?_, ?_⟩ <;> simp [go_sem, *]
  have q8 : W.cell? ⟨B, 8, none⟩ = some (.slice ra n rc) := by rw [hW]; simp [go_sem, *]
  have q9 : W.cell? ⟨B, 9, none⟩ = some (.func (Fn.func 158) #[] #[]) := by rw [hW]; simp [go_sem, *]
  have qf : ∀ i, W.frozen? ⟨B, i, none⟩ = false := fun i => by rw [hW, World.frozen?_setCell, World.frozen?_setCell]; exact g3 i
  rw [← hW]
  clear hW
  have hne : ∀ x, col x ≠ 0 → x < w.heap.size → W.heap[x]? = w.heap[x]? := fun x hx hl => hw.block x hl (by
    have : x ≠ B := fun e => by rw [e] at hx; exact hx g4
    omega)
  have hcr : ∀ x, col x ≠ 0 → colr col l h 3 x = col x := fun x hx => by
    unfold colr
    rw [if_neg (fun c => hx (hc x c.1 c.2).1)]
  have p1 := g5.keep hw.size hne
  have p2 := p1.recol (col' := colr col l h 3) (fun x hx => by
    by_cases c : l ≤ x ∧ x < h
    · have := hw.size; omega
    · unfold colr at hx; rw [if_neg c] at hx; exact p1.hc x hx) hcr
  refine ⟨b0, e0, b1, e1, b2, e2, x1, d1, x2, d2, b5, e5, b6, e6, ra, rc, h1, hbx, q8, q9, qf, ?_, ?_, ownsRow_of g6 fun q hq => hne q (by rw [g7 q hq]; omega) (g6.lt q hq).2, fun q hq => by rw [hcr q (by rw [g7 q hq]; omega)]; exact g7 q hq⟩
  · unfold colr
    by_cases c : l ≤ B ∧ B < h
    · exact absurd rfl (hc B c.1 c.2).2
    · rw [if_neg c]; exact g4
  · exact ⟨p2.hc, p2.ph, p2.po, p2.pp, p2.pd, fun _ => ⟨x1, d1, x2, d2, l, h, rfl, rfl, fun x k1 k2 => colr_new k1 k2, hg.writes hw (by
      by_cases c : l ≤ B ∧ B < h
      · exact absurd rfl (hc B c.1 c.2).2
      · omega)⟩⟩
theorem set_step2 {col : Nat → Nat} {B : Nat} {w w1 : World} {p q : Nat} {v u : Value} {k5 : Nat} (hb : Below w.heap.size w w1) :
    WkF col B w ((w1.setCell ⟨B, p, none⟩ v).setCell ⟨B, q, none⟩ u) ∧ ∀ x, x < w.heap.size → colr col w.heap.size w1.heap.size k5 x ≠ 0 → col x ≠ 0 :=
  ⟨(WkF.of_below hb).trans (WkF.of_writes (col := col) (((Writes.refl _ _ _).setCell (p := ⟨B, p, none⟩) (Nat.le_refl _) (Nat.lt_succ_self _) _).setCell (p := ⟨B, q, none⟩) (Nat.le_refl _) (Nat.lt_succ_self _) _)) (fun _ _ h => h), fun x hx q => by rw [colr_old hx] at q; exact q⟩
/-- What turns a store at work for one that is open answers: a code and, where that is 0, the store R. -/
def CoR (c : Int) (R : Sto) (lo B : Nat) (col : Nat → Nat) (w : World) (e : Ending) (w' : World) : Prop :=
  ∃ R' n' xs' col', e = .returned (.int .i64 c) ∧ (c = 0 → R' = R) ∧ (∀ x, x < w.heap.size → col' x ≠ 0 → col x ≠ 0) ∧ WkF col B w w' ∧ Wk R' n' xs' lo col' B w'
end Go.Proofs.YtaokclhcmgbgnaaGreat
