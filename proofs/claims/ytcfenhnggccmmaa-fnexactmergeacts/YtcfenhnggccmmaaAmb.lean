/- Acts merged: what is done behind k picks; the model's memory on the way. -/
import Derived.Test.YtcfenhnggccmmaaAma
import Derived.Test.YtcfenhnggccmmaaAea
namespace Go.Proofs.Ytcfenhnggccmmaa
open Go.ChangeShapes Go.WideShapes Go.ChangeAt Go.RowKit Go.Deep Go.Joins
set_option linter.unusedVariables false
set_option linter.unusedSimpArgs false
set_option maxRecDepth 20000

structure Mg where
  id : Nat → Int
  nx : Nat → Nat
  num : Int
  xs : List Ac
  ws : List Int
def mg0 : Mg := ⟨fun _ => 0, fun _ => 0, 2, [], []⟩
def mgN (T : Nat → Al) (p : Nat) (s : Mg) : Mg :=
  if s.id p = 0 then ⟨upf9 s.id p s.num, s.nx, s.num + 1, s.xs ++ [⟨1, 0, 0, 0⟩], s.ws ++ [(p : Int)]⟩
  else if s.nx p < (T p).n then ⟨s.id, upf9 s.nx p (s.nx p + 1), s.num, s.xs ++ [⟨((T p).R (s.nx p)).k, s.id p, ((T p).R (s.nx p)).y, ((T p).R (s.nx p)).o⟩], s.ws ++ [(p : Int)]⟩
  else s
/-- Behind k picks. -/
def mgK (T : Nat → Al) (P : Nat → Int) : Nat → Mg
  | 0 => mg0
  | k + 1 => mgN T (P k).toNat (mgK T P k)
structure MgB (s : Mg) (k : Nat) : Prop where
  n0 : 2 ≤ s.num
  n1 : s.num ≤ 2 + k
  x : s.xs.length ≤ k
  y : s.ws.length ≤ k
  j : ∀ p, s.nx p ≤ k
theorem mgN_b {T : Nat → Al} {p k : Nat} {s : Mg} (h : MgB s k) : MgB (mgN T p s) (k + 1) := by
  obtain ⟨h1, h2, h3, h4, h5⟩ := h
  unfold mgN
  split
  · exact ⟨by show 2 ≤ s.num + 1; omega, by show s.num + 1 ≤ 2 + ((k + 1 : Nat) : Int); omega, by simp; omega, by simp; omega, fun q => by have := h5 q; show s.nx q ≤ _; omega⟩
  · split
    · refine ⟨h1, by show s.num ≤ 2 + ((k + 1 : Nat) : Int); omega, by simp; omega, by simp; omega, fun q => ?_⟩
      show upf9 s.nx p (s.nx p + 1) q ≤ k + 1
      by_cases e : q = p
      · rw [e, upf9_eq]; have := h5 p; omega
      · rw [upf9_ne _ _ e]; have := h5 q; omega
    · exact ⟨h1, by omega, by omega, by omega, fun q => by have := h5 q; omega⟩
theorem mgK_b (T : Nat → Al) (P : Nat → Int) : ∀ k, MgB (mgK T P k) k
  | 0 => ⟨by show (2 : Int) ≤ 2; omega, by show (2 : Int) ≤ 2 + ((0 : Nat) : Int); omega, Nat.le_refl _, Nat.le_refl _, fun _ => Nat.le_refl _⟩
  | k + 1 => mgN_b (mgK_b T P k)
/-- The model on its way: the answer's box, the list's box B, the numbers in B + 1, how much is done in B + 2. -/
structure MgI (w wr : World) (n B : Nat) (v1 v2 : Value) (id : Nat → Int) (nx : Nat → Nat) (xs : List Ac) (ws : List Int) : Prop where
  below : Below w.heap.size w wr
  hB : w.heap.size + 1 ≤ B
  hsz : B + 3 ≤ wr.heap.size
  r : Box3 wr w.heap.size (.int .i64 0) (.slice none 0 0) (.slice none 0 0)
  rf : ∀ o, wr.frozen? ⟨w.heap.size, o, none⟩ = false
  b : Box3 wr B (.int .i64 0) v1 v2
  bf : ∀ o, wr.frozen? ⟨B, o, none⟩ = false
  i : ∀ q, q < n → wr.cell? ⟨B + 1, q, none⟩ = some (.int .i64 (id q))
  jf : ∀ o, wr.frozen? ⟨B + 1, o, none⟩ = false
  x : ∀ q, q < n → wr.cell? ⟨B + 2, q, none⟩ = some (.int .i64 ((nx q : Nat) : Int))
  xf : ∀ o, wr.frozen? ⟨B + 2, o, none⟩ = false
  own : TwoM (B + 3) wr v1 v2 xs ws
theorem MgI.mono {w wr w2 : World} {n B : Nat} {v1 v2 : Value} {id : Nat → Int} {nx : Nat → Nat} {xs : List Ac} {ws : List Int} (h : MgI w wr n B v1 v2 id nx xs ws) (hb : Below wr.heap.size wr w2) : MgI w w2 n B v1 v2 id nx xs ws := by
  have h1 := h.hB
  have h2 := h.hsz
  have f : ∀ q o, q < B + 3 → w2.frozen? ⟨q, o, none⟩ = wr.frozen? ⟨q, o, none⟩ := fun q o hq => World.frozen?_of_block (w := wr) (a := ⟨q, o, none⟩) (hb.block q (by omega))
  exact ⟨below_then h.below hb, h1, Nat.le_trans h2 hb.size, h.r.below hb, fun o => (f _ _ (by omega)).trans (h.rf o), h.b.below hb, fun o => (f _ _ (by omega)).trans (h.bf o), fun q hq => cell_below (h.i q hq) hb, fun o => (f _ _ (by omega)).trans (h.jf o), fun q hq => cell_below (h.x q hq) hb, fun o => (f _ _ (by omega)).trans (h.xf o), h.own.below hb⟩
theorem MgI.setI {w wr : World} {n B : Nat} {v1 v2 : Value} {id : Nat → Int} {nx : Nat → Nat} {xs : List Ac} {ws : List Int} (h : MgI w wr n B v1 v2 id nx xs ws) {p : Nat} (hp : p < n) (z : Int) : MgI w (wr.setCell ⟨B + 1, p, none⟩ (.int .i64 z)) n B v1 v2 (upf9 id p z) nx xs ws := by
  have h1 := h.hB
  have h2 := h.hsz
  have hs : Writes (B + 1) (B + 2) wr (wr.setCell ⟨B + 1, p, none⟩ (.int .i64 z)) := Writes.setCell (Writes.refl _ _ _) (p := ⟨B + 1, p, none⟩) (Nat.le_refl _) (Nat.lt_succ_self _) _
  refine ⟨Writes.below h.below hs (by omega), h1, Nat.le_trans h2 hs.size, h.r.writes hs (by omega), fun o => by rw [World.frozen?_setCell]; exact h.rf o, h.b.writes hs (by omega), fun o => by rw [World.frozen?_setCell]; exact h.bf o, fun q hq => ?_, fun o => by rw [World.frozen?_setCell]; exact h.jf o, fun q hq => cell_writes (h.x q hq) hs (by omega), fun o => by rw [World.frozen?_setCell]; exact h.xf o, h.own.writes hs (by omega)⟩
  by_cases e : q = p
  · subst e; rw [upf9_eq]; exact setS (h.i q hq)
  · rw [upf9_ne _ _ e]; exact (setO (by omega)).trans (h.i q hq)
theorem MgI.setX {w wr : World} {n B : Nat} {v1 v2 : Value} {id : Nat → Int} {nx : Nat → Nat} {xs : List Ac} {ws : List Int} (h : MgI w wr n B v1 v2 id nx xs ws) {p : Nat} (hp : p < n) (z : Nat) : MgI w (wr.setCell ⟨B + 2, p, none⟩ (.int .i64 (z : Int))) n B v1 v2 id (upf9 nx p z) xs ws := by
  have h1 := h.hB
  have h2 := h.hsz
  have hs : Writes (B + 2) (B + 3) wr (wr.setCell ⟨B + 2, p, none⟩ (.int .i64 (z : Int))) := Writes.setCell (Writes.refl _ _ _) (p := ⟨B + 2, p, none⟩) (Nat.le_refl _) (Nat.lt_succ_self _) _
  refine ⟨Writes.below h.below hs (by omega), h1, Nat.le_trans h2 hs.size, h.r.writes hs (by omega), fun o => by rw [World.frozen?_setCell]; exact h.rf o, h.b.writes hs (by omega), fun o => by rw [World.frozen?_setCell]; exact h.bf o, fun q hq => cell_writes (h.i q hq) hs (by omega), fun o => by rw [World.frozen?_setCell]; exact h.jf o, fun q hq => ?_, fun o => by rw [World.frozen?_setCell]; exact h.xf o, h.own.writes hs (by omega)⟩
  by_cases e : q = p
  · subst e; rw [upf9_eq]; exact setS (h.x q hq)
  · rw [upf9_ne _ _ e]; exact (setO (by omega)).trans (h.x q hq)
/-- One of the lists has grown. -/
theorem MgI.grown {w wr w' : World} {n B : Nat} {v1 v2 u1 u2 v v' : Value} {id : Nat → Int} {nx : Nat → Nat} {xs xs' : List Ac} {ws ws' : List Int} {o : Nat} (h : MgI w wr n B v1 v2 id nx xs ws) (hg : wr.grownBy w' v.ownBlock) (hv : ∀ q, v.ownBlock = some q → B + 3 ≤ q) (ho : TwoM (B + 3) w' u1 u2 xs' ws')
    (hbx : ∀ w3 : World, Box3 w3 B (.int .i64 0) v1 v2 → Box3 (w3.setCell ⟨B, o, none⟩ v') B (.int .i64 0) u1 u2) : MgI w (w'.setCell ⟨B, o, none⟩ v') n B u1 u2 id nx xs' ws' ∧ Box3 w' B (.int .i64 0) v1 v2 ∧ ∀ q, w'.frozen? ⟨B, q, none⟩ = false := by
  have h1 := h.hB
  have h2 := h.hsz
  have hw : Writes (B + 3) wr.heap.size wr w' := ⟨hg.os, hg.tape, hg.output, hg.size, fun k hk hd => hg.block k hk fun e => by have := hv k e.symm; omega⟩
  have hf : ∀ b o, b < B + 3 → w'.frozen? ⟨b, o, none⟩ = wr.frozen? ⟨b, o, none⟩ := fun b o hb => World.frozen?_of_block (w := wr) (a := ⟨b, o, none⟩) (hw.block b (by omega) (by omega))
  have hs : Writes B (B + 1) w' (w'.setCell ⟨B, o, none⟩ v') := Writes.setCell (Writes.refl _ _ _) (p := ⟨B, o, none⟩) (Nat.le_refl _) (Nat.lt_succ_self _) _
  have hb' := h.b.writes hw (by omega)
  exact ⟨⟨Writes.below (Writes.below h.below hw (by omega)) hs (by omega), h1, by have := hw.size; have := hs.size; omega, (h.r.writes hw (by omega)).writes hs (by omega), fun o => by rw [World.frozen?_setCell, hf _ _ (by omega)]; exact h.rf o, hbx _ hb', fun o => by rw [World.frozen?_setCell, hf _ _ (by omega)]; exact h.bf o, fun q hq => cell_writes (cell_writes (h.i q hq) hw (by omega)) hs (by omega), fun o => by rw [World.frozen?_setCell, hf _ _ (by omega)]; exact h.jf o, fun q hq => cell_writes (cell_writes (h.x q hq) hw (by omega)) hs (by omega), fun o => by rw [World.frozen?_setCell, hf _ _ (by omega)]; exact h.xf o, ho.writes hs (by omega)⟩, hb', fun q => (hf _ _ (by omega)).trans (h.bf q)⟩
theorem MgI.app1 {w wr w' : World} {n B g c : Nat} {v1 v2 : Value} {id : Nat → Int} {nx : Nat → Nat} {xs zs : List Ac} {ws : List Int} (h : MgI w wr n B v1 v2 id nx xs ws) (hg : wr.grownBy w' v1.ownBlock) (ho : w'.ownsRow (B + 3) 53 4 (.slice (some ⟨g, 0, none⟩) zs.length c) zs.length (acb zs)) (hl : v1.ownBlock = some g ∨ g = wr.heap.size) :
    MgI w (w'.setCell ⟨B, 1, none⟩ (.slice (some ⟨g, 0, none⟩) zs.length c)) n B (.slice (some ⟨g, 0, none⟩) zs.length c) v2 id nx zs ws ∧ Box3 w' B (.int .i64 0) v1 v2 ∧ ∀ q, w'.frozen? ⟨B, q, none⟩ = false :=
  h.grown hg (fun q hq => (ownI_lt h.own.1 q hq).1) (h.own.grow1 hg ho hl) fun w3 ⟨k0, k1, k2⟩ => ⟨(setO (by omega)).trans k0, setS k1, (setO (by omega)).trans k2⟩
theorem MgI.app2 {w wr w' : World} {n B g c : Nat} {v1 v2 : Value} {id : Nat → Int} {nx : Nat → Nat} {xs : List Ac} {ws zs : List Int} (h : MgI w wr n B v1 v2 id nx xs ws) (hg : wr.grownBy w' v2.ownBlock) (ho : w'.ownsRow (B + 3) 2 1 (.slice (some ⟨g, 0, none⟩) zs.length c) zs.length (il zs)) (hl : v2.ownBlock = some g ∨ g = wr.heap.size) :
    MgI w (w'.setCell ⟨B, 2, none⟩ (.slice (some ⟨g, 0, none⟩) zs.length c)) n B v1 (.slice (some ⟨g, 0, none⟩) zs.length c) id nx xs zs ∧ Box3 w' B (.int .i64 0) v1 v2 ∧ ∀ q, w'.frozen? ⟨B, q, none⟩ = false :=
  h.grown hg (fun q hq => (ownI_lt h.own.2.1 q hq).1) (h.own.grow2 hg ho hl) fun w3 ⟨k0, k1, k2⟩ => ⟨(setO (by omega)).trans k0, (setO (by omega)).trans k1, setS k2⟩
theorem MgI.one1 {w wr w' : World} {n B g c : Nat} {v1 v2 : Value} {id : Nat → Int} {nx : Nat → Nat} {xs : List Ac} {ws : List Int} {z : Ac} (h : MgI w wr n B v1 v2 id nx xs ws) (hg : wr.grownBy w' v1.ownBlock) (ho : w'.ownsRow (B + 3) 53 4 (.slice (some ⟨g, 0, none⟩) (xs.length + 1) c) (xs.length + 1) (acb (xs ++ [z]))) (hl : v1.ownBlock = some g ∨ g = wr.heap.size) :
    MgI w (w'.setCell ⟨B, 1, none⟩ (.slice (some ⟨g, 0, none⟩) (xs.length + 1) c)) n B (.slice (some ⟨g, 0, none⟩) (xs.length + 1) c) v2 id nx (xs ++ [z]) ws ∧ Box3 w' B (.int .i64 0) v1 v2 ∧ ∀ q, w'.frozen? ⟨B, q, none⟩ = false := by
  have e : (xs ++ [z]).length = xs.length + 1 := by simp
  have := h.app1 (zs := xs ++ [z]) (g := g) (c := c) hg (by rw [e]; exact ho) hl
  rwa [e] at this
theorem MgI.one2 {w wr w' : World} {n B g c : Nat} {v1 v2 : Value} {id : Nat → Int} {nx : Nat → Nat} {xs : List Ac} {ws : List Int} {z : Int} (h : MgI w wr n B v1 v2 id nx xs ws) (hg : wr.grownBy w' v2.ownBlock) (ho : w'.ownsRow (B + 3) 2 1 (.slice (some ⟨g, 0, none⟩) (ws.length + 1) c) (ws.length + 1) (il (ws ++ [z]))) (hl : v2.ownBlock = some g ∨ g = wr.heap.size) :
    MgI w (w'.setCell ⟨B, 2, none⟩ (.slice (some ⟨g, 0, none⟩) (ws.length + 1) c)) n B v1 (.slice (some ⟨g, 0, none⟩) (ws.length + 1) c) id nx xs (ws ++ [z]) ∧ Box3 w' B (.int .i64 0) v1 v2 ∧ ∀ q, w'.frozen? ⟨B, q, none⟩ = false := by
  have e : (ws ++ [z]).length = ws.length + 1 := by simp
  have := h.app2 (zs := ws ++ [z]) (g := g) (c := c) hg (by rw [e]; exact ho) hl
  rwa [e] at this
theorem infoInt3 : (Try.prog.info? 3).map (fun i => (i.zero, i.size, i.bytes)) = some (some (.int .i64 0), 1, 8) := by kernel_rfl
theorem run_make_i9 (n : Nat) (hn : n ≤ 1048576) (w : World) : (Instr.makeSlice 31 (.int .i64 (n : Int)) (.int .i64 (n : Int))).run Try.prog w = .ok (.slice (some ⟨w.heap.size, 0, none⟩) n n) (w.alloc (.cells (madeCells #[.int .i64 0] n) 2)) :=
  run_make_row' (P := Try.prog) 31 2 (.int .i64 0) 8 Try.underlying31 info2 rfl .i64 .i64 n (by omega) (by omega) w
theorem run_make_n9 (n : Nat) (hn : n ≤ 1048576) (w : World) : (Instr.makeSlice 66 (.int .i64 (n : Int)) (.int .i64 (n : Int))).run Try.prog w = .ok (.slice (some ⟨w.heap.size, 0, none⟩) n n) (w.alloc (.cells (madeCells #[.int .i64 0] n) 3)) :=
  run_make_row' (P := Try.prog) 66 3 (.int .i64 0) 8 Try.underlying66 infoInt3 rfl .i64 .i64 n (by omega) (by omega) w
theorem made_i9 (w : World) (n : Nat) (t : TypeId) : (∀ q, q < n → (w.alloc (.cells (madeCells #[.int .i64 0] n) t)).cell? ⟨w.heap.size, q, none⟩ = some (.int .i64 0)) ∧ ∀ o, (w.alloc (.cells (madeCells #[.int .i64 0] n) t)).frozen? ⟨w.heap.size, o, none⟩ = false := by
  refine ⟨fun q hq => ?_, fun o => by simp [go_sem]⟩
  simp [go_sem, madeCells]
  exact ⟨_, by rw [Array.getElem?_range, if_pos (by omega)], by simp [Nat.mod_one]⟩
/-- What the model starts with. -/
theorem MgI.start (w : World) (n : Nat) (o1 o2 : Obj) (h1 : o1 = .cells #[.int .i64 0, .slice none 0 0, .slice none 0 0] 44) :
    MgI w (((((w.alloc o1).alloc o1).alloc (.cells (madeCells #[.int .i64 0] n) 2))).alloc (.cells (madeCells #[.int .i64 0] n) 3)) n (w.heap.size + 1) (.slice none 0 0) (.slice none 0 0) mg0.id mg0.nx [] [] := by
  subst h1
  have b1 := below_new w (.cells #[.int .i64 0, .slice none 0 0, .slice none 0 0] 44)
  generalize hw1 : w.alloc (.cells #[.int .i64 0, .slice none 0 0, .slice none 0 0] 44) = w1 at *
  have s1 : w1.heap.size = w.heap.size + 1 := by rw [← hw1]; simp
  have r1 : Box3 w1 w.heap.size (.int .i64 0) (.slice none 0 0) (.slice none 0 0) := by rw [← hw1]; exact Box3.new _ _ _ _ _
  have f1 : ∀ o, w1.frozen? ⟨w.heap.size, o, none⟩ = false := fun o => by rw [← hw1]; simp [go_sem]
  clear hw1
  have b2 := below_new w1 (.cells #[.int .i64 0, .slice none 0 0, .slice none 0 0] 44)
  generalize hw2 : w1.alloc (.cells #[.int .i64 0, .slice none 0 0, .slice none 0 0] 44) = w2 at *
  have s2 : w2.heap.size = w.heap.size + 2 := by rw [← hw2]; simp [s1]
  have r2 : Box3 w2 (w.heap.size + 1) (.int .i64 0) (.slice none 0 0) (.slice none 0 0) := by rw [← hw2, ← s1]; exact Box3.new _ _ _ _ _
  have f2 : ∀ o, w2.frozen? ⟨w.heap.size + 1, o, none⟩ = false := fun o => by rw [← hw2, ← s1]; simp [go_sem]
  clear hw2
  have b3 := below_new w2 (.cells (madeCells #[.int .i64 0] n) 2)
  have i3 := made_i9 w2 n 2
  generalize hw3 : w2.alloc (.cells (madeCells #[.int .i64 0] n) 2) = w3 at *
  have s3 : w3.heap.size = w.heap.size + 3 := by rw [← hw3]; simp [s2]
  clear hw3
  have b4 := below_new w3 (.cells (madeCells #[.int .i64 0] n) 3)
  have i4 := made_i9 w3 n 3
  generalize hw4 : w3.alloc (.cells (madeCells #[.int .i64 0] n) 3) = w4 at *
  have s4 : w4.heap.size = w.heap.size + 4 := by rw [← hw4]; simp [s3]
  clear hw4
  rw [s2] at i3
  rw [s3] at i4
  have f : ∀ {u v : World}, Below u.heap.size u v → ∀ q o, q < u.heap.size → v.frozen? ⟨q, o, none⟩ = u.frozen? ⟨q, o, none⟩ := fun {u v} hb q o hq => World.frozen?_of_block (w := u) (a := ⟨q, o, none⟩) (hb.block q hq)
  refine ⟨below_then (below_then (below_then b1 b2) b3) b4, Nat.le_refl _, by omega, ((r1.below b2).below b3).below b4, fun o => by rw [f b4 _ _ (by omega), f b3 _ _ (by omega), f b2 _ _ (by omega)]; exact f1 o, (r2.below b3).below b4, fun o => by rw [f b4 _ _ (by omega), f b3 _ _ (by omega)]; exact f2 o, fun q hq => cell_below (i3.1 q hq) b4, fun o => by rw [f b4 _ _ (by omega)]; exact i3.2 o, fun q hq => i4.1 q hq, i4.2, TwoM.nil _ _⟩
end Go.Proofs.Ytcfenhnggccmmaa
