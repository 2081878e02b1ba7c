/- A store at work and its answer; what turnStore defers. -/
import Derived.Test.YtannmobmmnoegaaGreatQZer
import Derived.Defers
namespace Go.Proofs.YtannmobmmnoegaaGreat
open Go.ChangeShapes Go.WideShapes Go.ChangeAt Go.RowKit Go.Deep Go.Joins
set_option linter.unusedVariables false
set_option linter.unusedSimpArgs false
set_option maxRecDepth 20000

theorem row_self {w : World} {lo n s g cap : Nat} {e : TypeId} {xs : List Value} (h : w.ownsRow lo e s (.slice (some ⟨g, 0, none⟩) n cap) n xs) : w.ownsRow g e s (.slice (some ⟨g, 0, none⟩) n cap) n xs := by
  obtain ⟨h1, ⟨h2, h0⟩ | ⟨g', cap', cur, h2, hbg, rest⟩⟩ := h
  · injection h2 with q1
    cases q1
  · injection h2 with q1 q2 q3
    injection q1 with q1
    injection q1 with q1
    subst q1 q3
    exact ⟨h1, .inr ⟨g, cap, cur, rfl, Nat.le_refl _, rest⟩⟩
theorem row_two {w : World} {lo n s : Nat} {e : TypeId} {v : Value} {xs : List Value} (h : w.ownsRow lo e s v n xs) : (v = .slice none 0 0 ∧ n = 0) ∨ ∃ g cap, v = .slice (some ⟨g, 0, none⟩) n cap ∧ g < w.heap.size ∧ w.ownsRow g e s (.slice (some ⟨g, 0, none⟩) n cap) n xs := by
  have hh := h
  rcases h.2 with ⟨rfl, h0⟩ | ⟨g, cap, cur, rfl, hbg, hg, hnc, _⟩
  · exact .inl ⟨rfl, h0⟩
  · exact .inr ⟨g, cap, rfl, (hh.lt g rfl).2, row_self hh⟩
/-- The store that is worked on, as an answer's. -/
theorem Pce.own {s : Sto} {lo : Nat} {col : Nat → Nat} {b0 b1 b2 b3 b4 b5 b6 : Option Addr} {e0 e1 e2 e3 e4 e5 e6 : Nat} {w : World} (H : Pce s lo col true true s.pn (.slice b0 s.pn e0) (.slice b1 s.d.n e1) (.slice b2 s.d.m e2) (.slice b3 s.g.n1 e3) (.slice b4 s.g.n2 e4) (.slice b5 s.hn e5) (.slice b6 s.on e6) w) : OwnS w lo w.heap.size b0 b1 b2 b3 b4 b5 b6 s := by
  obtain ⟨k1, ⟨k2, k3⟩, ⟨k4, k5⟩, ⟨M, top, m1, m2, m3, m4⟩, k6, k7⟩ := H
  refine ⟨Nat.le_refl _, col, k1, ?_, ?_, ?_, ?_, ?_⟩
  · obtain ⟨a, cap, q1, q2, q3⟩ := m4.own
    injection q1 with q11 q12 q13
    subst q11
    exact q3.mono fun x hx => m3 x hx.1 hx.2
  · obtain ⟨a, c, a', c', l, h, p1, p2, p3, p4⟩ := k6 rfl
    injection p1 with p11 p12 p13
    injection p2 with p21 p22 p23
    subst p11 p21
    exact ⟨l, h, p3, p4⟩
  · obtain ⟨a, c, a', c', l, h, p1, p2, p3, p4⟩ := k7 rfl
    injection p1 with p11 p12 p13
    injection p2 with p21 p22 p23
    subst p11 p21
    exact ⟨l, h, p3, p4⟩
  · rcases row_two k2 with ⟨q1, q0⟩ | ⟨g, cap, q1, q2, q3⟩
    · exact ⟨0, 0, fun x _ h => absurd h (Nat.not_lt_zero _), Nat.zero_le _, .inl q0⟩
    · obtain ⟨a, cap', p1, p2, p3⟩ := own_of_rowH q3 (h := g + 1) (fun q hq => by simp only [Value.ownBlock, Option.some.injEq] at hq; omega) (by omega)
      have p1' := q1.trans p1
      injection p1' with p11 p12 p13
      subst p11
      exact ⟨g, g + 1, fun x x1 x2 => by obtain rfl : x = g := by omega
                                         exact k3 x (by rw [q1]; rfl), p3⟩
  · rcases row_two k4 with ⟨q1, q0⟩ | ⟨g, cap, q1, q2, q3⟩
    · exact ⟨0, 0, fun x _ h => absurd h (Nat.not_lt_zero _), Nat.zero_le _, .inl q0⟩
    · obtain ⟨a, cap', p1, p2, p3⟩ := own_of_rowI q3 (h := g + 1) (fun q hq => by simp only [Value.ownBlock, Option.some.injEq] at hq; omega) (by omega)
      have p1' := q1.trans p1
      injection p1' with p11 p12 p13
      subst p11
      exact ⟨g, g + 1, fun x x1 x2 => by obtain rfl : x = g := by omega
                                         exact k5 x (by rw [q1]; rfl), p3⟩
/-! ### what is deferred -/
def Bx10 (w : World) (R : Nat) (c v : Int) (u0 u1 u2 u3 u4 u5 u6 u7 : Value) : Prop := w.cell? ⟨R, 0, none⟩ = some (.int .i64 c) ∧ w.cell? ⟨R, 1, none⟩ = some (.int .i64 v) ∧ w.cell? ⟨R, 2, none⟩ = some u0 ∧ w.cell? ⟨R, 3, none⟩ = some u1 ∧ w.cell? ⟨R, 4, none⟩ = some u2 ∧ w.cell? ⟨R, 5, none⟩ = some u3 ∧ w.cell? ⟨R, 6, none⟩ = some u4 ∧ w.cell? ⟨R, 7, none⟩ = some u5 ∧ w.cell? ⟨R, 8, none⟩ = some u6 ∧ w.cell? ⟨R, 9, none⟩ = some u7
theorem Bx10.block {w w' : World} {R : Nat} {c v : Int} {u0 u1 u2 u3 u4 u5 u6 u7 : Value} (h : Bx10 w R c v u0 u1 u2 u3 u4 u5 u6 u7) (e : w'.heap[R]? = w.heap[R]?) : Bx10 w' R c v u0 u1 u2 u3 u4 u5 u6 u7 := by
  obtain ⟨h0, h1, h2, h3, h4, h5, h6, h7, h8, h9⟩ := h
  exact ⟨(cellB e).trans h0, (cellB e).trans h1, (cellB e).trans h2, (cellB e).trans h3, (cellB e).trans h4, (cellB e).trans h5, (cellB e).trans h6, (cellB e).trans h7, (cellB e).trans h8, (cellB e).trans h9⟩
theorem turnD_good (R : Nat) (u : FrameMode) (w : World) (hc : w.cell? ⟨R, 0, none⟩ = some (.int .i64 0)) :
    CallsD Tryz.prog 106 #[.pointer (some ⟨R, 0, none⟩)] u w fun e u' w' => u' = u ∧ (e = .returned (.tuple #[]) ∧ w' = w) := by
  go_enter_d Tryz.func106, Tryz.ntmps106
  go_wp2_with fail
  refine bodyPost_end (v := .tuple #[]) (by simp [results, Tryz.results106, go_sem]) rfl ⟨rfl, rfl⟩
theorem turnD_bad (R : Nat) (u : FrameMode) (c v : Int) (u0 u1 u2 u3 u4 u5 u6 u7 : Value) (w : World) (h0 : c ≠ 0) (h : Bx10 w R c v u0 u1 u2 u3 u4 u5 u6 u7) (hf : ∀ i, w.frozen? ⟨R, i, none⟩ = false) :
    CallsD Tryz.prog 106 #[.pointer (some ⟨R, 0, none⟩)] u w fun e u' w' => u' = u ∧ (e = .returned (.tuple #[]) ∧ Writes R (R + 1) w w' ∧ Bx10 w' R c 0 (.int .i64 0) (.slice none 0 0) (.slice none 0 0) (.slice none 0 0) (.slice none 0 0) (.slice none 0 0) (.slice none 0 0) (.slice none 0 0)) := by
  obtain ⟨r0, r1, r2, r3, r4, r5, r6, r7, r8, r9⟩ := h
  have h0' : (c != 0) = true := by simp [h0]
  go_enter_d Tryz.func106, Tryz.ntmps106
  go_wp2_with fail
  refine bodyPost_end (v := .tuple #[]) (by simp [results, Tryz.results106, go_sem]) rfl ⟨rfl, ?_, ?_⟩
  · repeat (first | with_reducible exact Writes.refl _ _ _ | with_reducible refine Writes.setCell ?_ (by first | omega | (simp <;> omega)) (by first | omega | (simp <;> omega)) _)
  · refine ⟨?_, ?_, ?_, ?_, ?_, ?_, ?_, ?_, ?_, ?_⟩ <;> simp [go_sem, *]
/-! ### a region's operations in a frame that defers -/
theorem leaves_same {P : Program} {fn : Func} {t1 t2 : Array Value} {R : Ending → World → Prop} (h : results fn t1 = results fn t2) : ∀ (ds : List Deferred) (u : FrameMode) (w : World), Leaves P fn t1 R ds u w → Leaves P fn t2 R ds u w
  | [], .returning, w, ⟨v, hv, hr⟩ => ⟨v, by rw [← h]; exact hv, hr⟩
  | [], .panicking c, w, hh => hh
  | [], .run, w, hh => hh
  | d :: ds, u, w, ⟨h1, fv, cap, f, args, h2, h3, h4⟩ => ⟨h1, fv, cap, f, args, h2, h3, h4.mono (fun e u' w' hh => by
      cases e with
      | returned v => exact leaves_same h ds _ _ hh
      | panicked c => exact leaves_same h ds _ _ hh
      | outgrown => exact hh)⟩
theorem res_turn (a : Act) (d : Nat) (v : Value) (hd : d ≠ 4) : results Tryz.f40 (a.put (some d) v).tmps = results Tryz.f40 a.tmps := by
  have h4 : (a.tmps.setIfInBounds d v)[4]? = a.tmps[4]? := by simp [Array.getElem?_setIfInBounds, hd]
  simp [results, Tryz.results40, Act.put, h4]
theorem turnQ {K : Act → World → Prop} {R : Ending → World → Prop} {d : Nat} {v : Value} (hd : d ≠ 4) : ∀ c a w, Exit.then K (bodyPostD Tryz.prog Tryz.f40 R) (.panic c) (a.put (some d) v) w → Exit.then K (bodyPostD Tryz.prog Tryz.f40 R) (.panic c) a w :=
  fun c a w h => leaves_same (res_turn a d v hd) _ _ _ h
end Go.Proofs.YtannmobmmnoegaaGreat
