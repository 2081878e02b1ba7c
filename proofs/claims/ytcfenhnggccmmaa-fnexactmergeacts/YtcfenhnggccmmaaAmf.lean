/- impl.MergeActs: its memory on the way. -/
import Derived.Test.YtcfenhnggccmmaaAme
namespace Go.Proofs.Ytcfenhnggccmmaa
open Go.ChangeShapes Go.WideShapes Go.ChangeAt Go.RowKit Go.Deep Go.Joins
set_option linter.unusedVariables false
set_option linter.unusedSimpArgs false
set_option maxRecDepth 20000

theorem isActKind_any (v : Int) (w : World) : Calls Try.prog 46 #[.int .i64 v] w fun e w' => e = .returned (.bool (inB v 1 7)) ∧ w' = w := by
  go_enter Try.func46, Try.ntmps46
  go_wp2_with fail
  refine (within_any v 1 7 _).mono ?_
  rintro e w1 ⟨rfl, hw1⟩
  obtain rfl := hw1.symm
  go_wp2_with fail
  go_ret
  exact ⟨rfl, rfl⟩
theorem actL_done {t : Al} {j : Nat} (h : t.n ≤ j) : actL t j = List.replicate 12 zAc := by
  have e : ∀ i, actF t (j + i) = zAc := fun i => by unfold actF; rw [if_neg (by omega)]
  simp [actL, List.range_succ]
  have := e 0
  simp at this
  simp [this, e]
/-- The program on its way: the answer's box, the list's box B, the sessions in blocks below it. -/
structure MpI (w wr : World) (n B tb : Nat) (v1 v2 : Value) (bl : Nat → Nat) (id : Nat → Int) (L : Nat → List Ac) (xs : List Ac) (ws : List Int) : Prop where
  below : Below w.heap.size w wr
  hB : w.heap.size + 1 ≤ B
  hsz : B + 1 ≤ wr.heap.size
  r : Box3 wr w.heap.size (.int .i64 0) (.slice none 0 0) (.slice none 0 0)
  rf : ∀ o, wr.frozen? ⟨w.heap.size, o, none⟩ = false
  b : Box3 wr B (.int .i64 0) v1 v2
  bf : ∀ o, wr.frozen? ⟨B, o, none⟩ = false
  ht : w.heap.size + 1 ≤ tb ∧ tb < B
  t : ∀ q, q < n → wr.cell? ⟨tb, q, none⟩ = some (tkV (bl q))
  s : ∀ q, q < n → w.heap.size + 1 ≤ bl q ∧ bl q < B ∧ bl q ≠ tb ∧ Ses wr (bl q) (id q) (L q)
  ne : ∀ i j, i < n → j < n → i ≠ j → bl i ≠ bl j
  own : TwoM (B + 1) wr v1 v2 xs ws
theorem MpI.mono {w wr w2 : World} {n B tb : Nat} {v1 v2 : Value} {bl : Nat → Nat} {id : Nat → Int} {L : Nat → List Ac} {xs : List Ac} {ws : List Int} (h : MpI w wr n B tb v1 v2 bl id L xs ws) (hb : Below wr.heap.size wr w2) : MpI w w2 n B tb v1 v2 bl id L xs ws := by
  have h1 := h.hB
  have h2 := h.hsz
  have h3 := h.ht
  have f : ∀ q o, q < B + 1 → w2.frozen? ⟨q, o, none⟩ = wr.frozen? ⟨q, o, none⟩ := fun q o hq => World.frozen?_of_block (w := wr) (a := ⟨q, o, none⟩) (hb.block q (by omega))
  exact ⟨below_then h.below hb, h1, Nat.le_trans h2 hb.size, h.r.below hb, fun o => (f _ _ (by omega)).trans (h.rf o), h.b.below hb, fun o => (f _ _ (by omega)).trans (h.bf o), h3, fun q hq => cell_below (h.t q hq) hb, fun q hq => by obtain ⟨k0, k1, k2, k3⟩ := h.s q hq; exact ⟨k0, k1, k2, k3.block (hb.block _ (by omega))⟩, h.ne, h.own.below hb⟩
/-- One of the sessions has taken its turn. -/
theorem MpI.take {w wr w2 : World} {n B tb p : Nat} {v1 v2 : Value} {bl : Nat → Nat} {id : Nat → Int} {L : Nat → List Ac} {xs : List Ac} {ws : List Int} (h : MpI w wr n B tb v1 v2 bl id L xs ws) (hp : p < n) {z : Int} {l : List Ac} (hw : Writes (bl p) (bl p + 1) wr w2) (hs : Ses w2 (bl p) z l) : MpI w w2 n B tb v1 v2 bl (upf9 id p z) (upf9 L p l) xs ws := by
  have h1 := h.hB
  have h2 := h.hsz
  have h3 := h.ht
  obtain ⟨p0, p1, p2, p3⟩ := h.s p hp
  have f : ∀ q o, q < B + 1 → q ≠ bl p → w2.frozen? ⟨q, o, none⟩ = wr.frozen? ⟨q, o, none⟩ := fun q o hq hne => World.frozen?_of_block (w := wr) (a := ⟨q, o, none⟩) (hw.block q (by omega) (by omega))
  refine ⟨Writes.below h.below hw (by omega), h1, Nat.le_trans h2 hw.size, h.r.writes hw (by omega), fun o => (f _ _ (by omega) (by omega)).trans (h.rf o), h.b.writes hw (by omega), fun o => (f _ _ (by omega) (by omega)).trans (h.bf o), h3, fun q hq => cell_writes (h.t q hq) hw (by omega), fun q hq => ?_, h.ne, h.own.writes hw (by omega)⟩
  by_cases e : q = p
  · subst e; rw [upf9_eq, upf9_eq]; exact ⟨p0, p1, p2, hs⟩
  · obtain ⟨k0, k1, k2, k3⟩ := h.s q hq
    have := h.ne q p hq hp e
    rw [upf9_ne _ _ e, upf9_ne _ _ e]
    exact ⟨k0, k1, k2, k3.block (hw.block _ (by omega) (by omega))⟩
/-- One of the lists has grown. -/
theorem MpI.grown {w wr w' : World} {n B tb : Nat} {v1 v2 u1 u2 v v' : Value} {bl : Nat → Nat} {id : Nat → Int} {L : Nat → List Ac} {xs xs' : List Ac} {ws ws' : List Int} {o : Nat} (h : MpI w wr n B tb v1 v2 bl id L xs ws) (hg : wr.grownBy w' v.ownBlock) (hv : ∀ q, v.ownBlock = some q → B + 1 ≤ q) (ho : TwoM (B + 1) w' u1 u2 xs' ws')
    (hbx : ∀ w3 : World, Box3 w3 B (.int .i64 0) v1 v2 → Box3 (w3.setCell ⟨B, o, none⟩ v') B (.int .i64 0) u1 u2) : MpI w (w'.setCell ⟨B, o, none⟩ v') n B tb u1 u2 bl id L xs' ws' ∧ Box3 w' B (.int .i64 0) v1 v2 ∧ ∀ q, w'.frozen? ⟨B, q, none⟩ = false := by
  have h1 := h.hB
  have h2 := h.hsz
  have h3 := h.ht
  have hw : Writes (B + 1) wr.heap.size wr w' := ⟨hg.os, hg.tape, hg.output, hg.size, fun k hk hd => hg.block k hk fun e => by have := hv k e.symm; omega⟩
  have hf : ∀ b o, b < B + 1 → w'.frozen? ⟨b, o, none⟩ = wr.frozen? ⟨b, o, none⟩ := fun b o hb => World.frozen?_of_block (w := wr) (a := ⟨b, o, none⟩) (hw.block b (by omega) (by omega))
  have hs : Writes B (B + 1) w' (w'.setCell ⟨B, o, none⟩ v') := Writes.setCell (Writes.refl _ _ _) (p := ⟨B, o, none⟩) (Nat.le_refl _) (Nat.lt_succ_self _) _
  have hb' := h.b.writes hw (by omega)
  have hsw := hw.size
  exact ⟨⟨Writes.below (Writes.below h.below hw (by omega)) hs (by omega), h1, by have := hs.size; omega, (h.r.writes hw (by omega)).writes hs (by omega), fun o => by rw [World.frozen?_setCell, hf _ _ (by omega)]; exact h.rf o, hbx _ hb', fun o => by rw [World.frozen?_setCell, hf _ _ (by omega)]; exact h.bf o, h3, fun q hq => cell_writes (cell_writes (h.t q hq) hw (by omega)) hs (by omega), fun q hq => by obtain ⟨k0, k1, k2, k3⟩ := h.s q hq; exact ⟨k0, k1, k2, (k3.block (hw.block _ (by omega) (by omega))).block (hs.block _ (by omega) (by omega))⟩, h.ne, ho.writes hs (by omega)⟩, hb', fun q => (hf _ _ (by omega)).trans (h.bf q)⟩
theorem MpI.one1 {w wr w' : World} {n B tb g c : Nat} {v1 v2 : Value} {bl : Nat → Nat} {id : Nat → Int} {L : Nat → List Ac} {xs : List Ac} {ws : List Int} {z : Ac} (h : MpI w wr n B tb v1 v2 bl id L xs ws) (hg : wr.grownBy w' v1.ownBlock) (ho : w'.ownsRow (B + 1) 53 4 (.slice (some ⟨g, 0, none⟩) (xs.length + 1) c) (xs.length + 1) (acb (xs ++ [z]))) (hl : v1.ownBlock = some g ∨ g = wr.heap.size) :
    MpI w (w'.setCell ⟨B, 1, none⟩ (.slice (some ⟨g, 0, none⟩) (xs.length + 1) c)) n B tb (.slice (some ⟨g, 0, none⟩) (xs.length + 1) c) v2 bl id L (xs ++ [z]) ws ∧ Box3 w' B (.int .i64 0) v1 v2 ∧ ∀ q, w'.frozen? ⟨B, q, none⟩ = false := by
  have e : (xs ++ [z]).length = xs.length + 1 := by simp
  have hx := h.own.grow1 (zs := xs ++ [z]) (g := g) (c := c) hg (by rw [e]; exact ho) hl
  rw [e] at hx
  exact h.grown hg (fun q hq => (ownI_lt h.own.1 q hq).1) hx fun w3 ⟨k0, k1, k2⟩ => ⟨(setO (by omega)).trans k0, setS k1, (setO (by omega)).trans k2⟩
theorem MpI.one2 {w wr w' : World} {n B tb g c : Nat} {v1 v2 : Value} {bl : Nat → Nat} {id : Nat → Int} {L : Nat → List Ac} {xs : List Ac} {ws : List Int} {z : Int} (h : MpI w wr n B tb v1 v2 bl id L xs ws) (hg : wr.grownBy w' v2.ownBlock) (ho : w'.ownsRow (B + 1) 2 1 (.slice (some ⟨g, 0, none⟩) (ws.length + 1) c) (ws.length + 1) (il (ws ++ [z]))) (hl : v2.ownBlock = some g ∨ g = wr.heap.size) :
    MpI w (w'.setCell ⟨B, 2, none⟩ (.slice (some ⟨g, 0, none⟩) (ws.length + 1) c)) n B tb v1 (.slice (some ⟨g, 0, none⟩) (ws.length + 1) c) bl id L xs (ws ++ [z]) ∧ Box3 w' B (.int .i64 0) v1 v2 ∧ ∀ q, w'.frozen? ⟨B, q, none⟩ = false := by
  have e : (ws ++ [z]).length = ws.length + 1 := by simp
  have hx := h.own.grow2 (zs := ws ++ [z]) (g := g) (c := c) hg (by rw [e]; exact ho) hl
  rw [e] at hx
  exact h.grown hg (fun q hq => (ownI_lt h.own.2.1 q hq).1) hx fun w3 ⟨k0, k1, k2⟩ => ⟨(setO (by omega)).trans k0, (setO (by omega)).trans k1, setS k2⟩
/-- What the program starts with, behind turnsOf. -/
theorem MpI.start {w w1 w2 : World} {n : Nat} {v : Value} {bl : Nat → Nat} {id : Nat → Int} {L : Nat → List Ac} {o : Obj} (ho : o = .cells #[.int .i64 0, .slice none 0 0, .slice none 0 0] 44) (hn : 0 < n) (hb : Below (w.alloc o).heap.size (w.alloc o) w1) (h : TnI w1 w2 n v bl id L) :
    ∃ tb c, v = .slice (some ⟨tb, 0, none⟩) n c ∧ n ≤ c ∧ MpI w (w2.alloc o) n w2.heap.size tb (.slice none 0 0) (.slice none 0 0) bl id L [] [] := by
  subst ho
  have s1 : (w.alloc (.cells #[.int .i64 0, .slice none 0 0, .slice none 0 0] 44)).heap.size = w.heap.size + 1 := by simp
  have r1 : Box3 (w.alloc (.cells #[.int .i64 0, .slice none 0 0, .slice none 0 0] 44)) w.heap.size (.int .i64 0) (.slice none 0 0) (.slice none 0 0) := Box3.new _ _ _ _ _
  have f1 : ∀ o, (w.alloc (.cells #[.int .i64 0, .slice none 0 0, .slice none 0 0] 44)).frozen? ⟨w.heap.size, o, none⟩ = false := fun o => by simp [go_sem]
  have b0 := below_new w (.cells #[.int .i64 0, .slice none 0 0, .slice none 0 0] 44)
  generalize w.alloc (.cells #[.int .i64 0, .slice none 0 0, .slice none 0 0] 44) = wa at *
  have r2 : Box3 (w2.alloc (.cells #[.int .i64 0, .slice none 0 0, .slice none 0 0] 44)) w2.heap.size (.int .i64 0) (.slice none 0 0) (.slice none 0 0) := Box3.new _ _ _ _ _
  have f2 : ∀ o, (w2.alloc (.cells #[.int .i64 0, .slice none 0 0, .slice none 0 0] 44)).frozen? ⟨w2.heap.size, o, none⟩ = false := fun o => by simp [go_sem]
  have b3 := below_new w2 (.cells #[.int .i64 0, .slice none 0 0, .slice none 0 0] 44)
  have s3 : (w2.alloc (.cells #[.int .i64 0, .slice none 0 0, .slice none 0 0] 44)).heap.size = w2.heap.size + 1 := by simp
  generalize w2.alloc (.cells #[.int .i64 0, .slice none 0 0, .slice none 0 0] 44) = w3 at *
  have hb1 := hb.size
  have hb2 := h.below.size
  rcases h.row.2 with ⟨e, h0⟩ | ⟨g, c, cur, e, k1, k2, k3, k4⟩
  · omega
  have hgl : g < w2.heap.size := (Array.getElem?_eq_some_iff.1 k2).1
  have hrow := h.row
  subst e
  have f : ∀ {u v : World}, Below u.heap.size u v → ∀ q o, q < u.heap.size → v.frozen? ⟨q, o, none⟩ = u.frozen? ⟨q, o, none⟩ := fun {u v} hb q o hq => World.frozen?_of_block (w := u) (a := ⟨q, o, none⟩) (hb.block q hq)
  refine ⟨g, c, rfl, k3, ⟨below_then (below_then (below_then b0 hb) h.below) b3, by omega, by omega, ((r1.below hb).below h.below).below b3, fun o => by rw [f b3 _ _ (by omega), f h.below _ _ (by omega), f hb _ _ (by omega)]; exact f1 o, r2, f2, ⟨by omega, hgl⟩, fun q hq => ?_, fun q hq => ?_, h.ne, TwoM.nil _ _⟩⟩
  · refine cell_below ?_ b3
    have := hrow.cellAt q (by omega)
    rw [this]
    simp [tkL, hq]
  · obtain ⟨m0, m1, m2, m3⟩ := h.s q hq
    refine ⟨by omega, m1, ?_, m3.block (b3.block _ m1)⟩
    intro e
    exact m2 (by rw [e]; rfl)
end Go.Proofs.Ytcfenhnggccmmaa
