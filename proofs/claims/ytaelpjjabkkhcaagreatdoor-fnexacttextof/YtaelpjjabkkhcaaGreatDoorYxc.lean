/- A good engine's numbers; sizes of its text; what TextOf keeps. -/
import Derived.Test.YtaelpjjabkkhcaaGreatDoorYxb
import Derived.Test.YtaelpjjabkkhcaaGreatDoorYsf
import Derived.Test.YtaelpjjabkkhcaaGreatDoorGi
import Derived.Test.YtaelpjjabkkhcaaGreatDoorGd
namespace Go.Proofs.YtaelpjjabkkhcaaGreatDoor
open Go.RowKit Go.Deep
set_option linter.unusedVariables false
set_option maxRecDepth 20000

structure GoodT (E : En) : Prop where
  nx : 1 ≤ E.nx ∧ E.nx ≤ 999
  ck : 0 ≤ E.ck ∧ E.ck ≤ 1000000
  p : E.p ≤ 20
  q : E.q ≤ 32
  t : ∀ i, i < E.p → ∀ x ∈ txL (E.T i), 0 ≤ x ∧ x ≤ 1000000000
  r : ∀ i, i < E.q → (0 ≤ (E.R i).key ∧ (E.R i).key ≤ 31) ∧ (E.R i).n ≤ 12 ∧ ∀ j, j < (E.R i).n → vR ((E.R i).U j) = true
theorem eT_good {E : En} (h : eF E = 0) : GoodT E := by
  unfold eF at h
  split at h
  · omega
  · rename_i h1
    split at h
    · omega
    · rename_i h0
      split at h
      · rename_i h2
        split at h
        · rename_i h3
          have hn : inB E.nx 1 999 = true := by
            cases e : inB E.nx 1 999 with
            | true => rfl
            | false => exact absurd (.inl e) h1
          have hk : inB E.ck 0 1000000 = true := by
            cases e : inB E.ck 0 1000000 with
            | true => rfl
            | false => exact absurd (.inr e) h1
          have n1 := inB_iff.1 hn
          have n2 := inB_iff.1 hk
          refine ⟨n1, n2, by omega, by omega, fun i hi x hx => ?_, fun i hi => ?_⟩
          · have ht := tF_good (ffz_zero h2 i hi)
            have hu := usF_le ht.2.2.2.2
            have hb := ht.1
            simp only [tIn, Bool.and_eq_true, inB_iff] at hb
            obtain ⟨⟨⟨b1, b2⟩, b3⟩, b4⟩ := hb
            simp only [txL, List.mem_cons, List.not_mem_nil, or_false] at hx
            rcases hx with rfl | rfl | rfl | rfl | rfl
            · omega
            · omega
            · omega
            · omega
            · omega
          · have hr := rF_good (ffz_zero h3 i hi)
            have hc := chF_good hr.2.2.1
            exact ⟨inB_iff.1 hr.1, hc.1, fun j hj => (hc.2 j hj).1⟩
        · rename_i h3; exact absurd h h3
      · rename_i h2; exact absurd h h2
theorem txT_size {t : Tx} (h : ∀ x ∈ txL t, 0 ≤ x ∧ x ≤ 1000000000) : (txT t).size ≤ 120 := by
  have h1 := lnT_size (txL t) txnB h
  have h2 : (txL t).length = 5 := rfl
  have h3 : txnB.size = 3 := rfl
  have h4 : nl.size = 1 := rfl
  simp only [txT, ByteArray.size_append]
  omega
theorem TT_size {c : ByteArray} {T : Nat → Tx} {n : Nat} (h : ∀ i, i < n → ∀ x ∈ txL (T i), 0 ≤ x ∧ x ≤ 1000000000) : ∀ m, m ≤ n → (TT c T m).size ≤ c.size + 120 * m
  | 0, _ => by simp [TT]
  | m + 1, hm => by
    have h1 := TT_size (c := c) h m (by omega)
    have h2 := txT_size (h m (by omega))
    simp only [TT, ByteArray.size_append]
    omega
theorem rwT_size {r : Rw} (hk : 0 ≤ r.key ∧ r.key ≤ 31) (hn : r.n ≤ 12) (h : ∀ j, j < r.n → vR (r.U j) = true) : (rwT r).size ≤ 900 := by
  have h1 := VT_size h
  have h2 := dg_size r.key.toNat (by omega)
  have h3 : rowB.size = 3 := rfl
  have h4 : nl.size = 1 := rfl
  have h5 : blk.size = 1 := rfl
  simp only [rwT, ByteArray.size_append]
  omega
theorem RT_size {c : ByteArray} {E : En} (h : GoodT E) : ∀ m, m ≤ E.q → (RT c E.R m).size ≤ c.size + 900 * m
  | 0, _ => by simp [RT]
  | m + 1, hm => by
    have h1 := RT_size (c := c) h m (by omega)
    obtain ⟨k1, k2, k3⟩ := h.r m (by omega)
    have h2 := rwT_size k1 k2 k3
    simp only [RT, ByteArray.size_append]
    omega
theorem eT0_size {E : En} (h : GoodT E) : (eT0 E).size ≤ 60 := by
  have h1 := lnT_size [E.ck, E.nx] clkB (fun x hx => by
    have a := h.nx
    have b := h.ck
    simp only [List.mem_cons, List.not_mem_nil, or_false] at hx
    rcases hx with rfl | rfl <;> omega)
  have h2 : clkB.size = 5 := rfl
  have h3 : nl.size = 1 := rfl
  have h4 : ([E.ck, E.nx] : List Int).length = 2 := rfl
  simp only [eT0, ByteArray.size_append]
  omega
theorem TTe_size {E : En} (h : GoodT E) {m : Nat} (hm : m ≤ E.p) : (TT (eT0 E) E.T m).size ≤ 3000 := by
  have h1 := eT0_size h
  have h2 := TT_size (c := eT0 E) h.t m hm
  have h3 := h.p
  omega
theorem RTe_size {E : En} (h : GoodT E) {m : Nat} (hm : m ≤ E.q) : (RT (TT (eT0 E) E.T E.p) E.R m).size ≤ 40000 := by
  have h1 := TTe_size h (Nat.le_refl _)
  have h2 := RT_size (c := TT (eT0 E) E.T E.p) h m hm
  have h3 := h.q
  omega
/-- The answer's text. -/
def tE (E : En) : ByteArray := if eF E = 0 then eT E else ByteArray.empty
theorem tE_ok {E : En} (h : eF E = 0) : tE E = eT E := by simp only [tE, h, if_true]
theorem tE_no {E : En} (h : eF E ≠ 0) : tE E = ByteArray.empty := by simp only [tE, h, if_false]
def TRs (w : World) (E : En) (e : Ending) (w' : World) : Prop := e = .returned (.agg #[.int .i64 (eF E), .string (tE E)]) ∧ Below w.heap.size w w'
theorem lit_cells (w : World) (L : List ByteArray) (A : Array Value) (t : TypeId) (h : A.toList = svl L) : ∀ (j : Nat) x, L[j]? = some x → (w.alloc (.cells A t)).cell? ⟨w.heap.size, 0 + j, none⟩ = some (.string x) := fun j x hj => by
  have e : A = (svl L).toArray := by rw [← h]
  subst e
  rw [Nat.zero_add]
  simp [svl, hj]
theorem lit_ints (w : World) (L : List Int) (A : Array Value) (t : TypeId) (h : A.toList = L.map (Value.int .i64)) : ∀ (j : Nat) x, L[j]? = some x → (w.alloc (.cells A t)).cell? ⟨w.heap.size, j, none⟩ = some (.int .i64 x) := fun j x hj => by
  have e : A = (L.map (Value.int .i64)).toArray := by rw [← h]
  subst e
  simp [hj]
def Box5 (w : World) (B : Nat) (c0 c1 c2 c3 c4 : Value) : Prop := w.cell? ⟨B, 0, none⟩ = some c0 ∧ w.cell? ⟨B, 1, none⟩ = some c1 ∧ w.cell? ⟨B, 2, none⟩ = some c2 ∧ w.cell? ⟨B, 3, none⟩ = some c3 ∧ w.cell? ⟨B, 4, none⟩ = some c4
theorem Box5.alloc {w : World} {B : Nat} {c0 c1 c2 c3 c4 : Value} (h : Box5 w B c0 c1 c2 c3 c4) (x : Obj) : Box5 (w.alloc x) B c0 c1 c2 c3 c4 := ⟨cell_alloc h.1 x, cell_alloc h.2.1 x, cell_alloc h.2.2.1 x, cell_alloc h.2.2.2.1 x, cell_alloc h.2.2.2.2 x⟩
theorem Box5.below {w w' : World} {B : Nat} {c0 c1 c2 c3 c4 : Value} (h : Box5 w B c0 c1 c2 c3 c4) (x : Below w.heap.size w w') : Box5 w' B c0 c1 c2 c3 c4 := ⟨cell_below h.1 x, cell_below h.2.1 x, cell_below h.2.2.1 x, cell_below h.2.2.2.1 x, cell_below h.2.2.2.2 x⟩
theorem Box5.new (w : World) (c0 c1 c2 c3 c4 : Value) (t : TypeId) : Box5 (w.alloc (.cells #[c0, c1, c2, c3, c4] t)) w.heap.size c0 c1 c2 c3 c4 := by simp [Box5]
/-- What TextOf keeps: the engine's box, the answer's. -/
def KT (w wr : World) (E : En) (a : Option Addr) (cap : Nat) (a' : Option Addr) (cap' : Nat) : Prop :=
  Below w.heap.size w wr ∧ Box4 wr w.heap.size (.int .i64 E.nx) (.int .i64 E.ck) (.slice a E.p cap) (.slice a' E.q cap') ∧ Box2 wr (w.heap.size + 1) (.int .i64 0) (.string ByteArray.empty) ∧ (∀ i, wr.frozen? ⟨w.heap.size + 1, i, none⟩ = false) ∧ w.heap.size + 2 ≤ wr.heap.size
theorem KT.below {w wr w1 : World} {E : En} {a a' : Option Addr} {cap cap' : Nat} (h : KT w wr E a cap a' cap') (hb : Below wr.heap.size wr w1) : KT w w1 E a cap a' cap' := by
  obtain ⟨h1, h2, h3, h4, h5⟩ := h
  exact ⟨h1.trans (hb.mono h1.size), h2.below hb, h3.below hb, fun i => by rw [(bcell hb).2 _ _ (by omega)]; exact h4 i, Nat.le_trans h5 hb.size⟩
theorem KT.alloc {w wr : World} {E : En} {a a' : Option Addr} {cap cap' : Nat} (h : KT w wr E a cap a' cap') (o : Obj) : KT w (wr.alloc o) E a cap a' cap' := h.below (below_new _ _)
theorem KT.drewn {w wr : World} {E : En} {a a' : Option Addr} {cap cap' : Nat} (h : KT w wr E a cap a' cap') : KT w wr.drew E a cap a' cap' := ⟨h.1.drew, h.2.1, h.2.2.1, h.2.2.2.1, h.2.2.2.2⟩
theorem KT.grow {w wr w1 : World} {E : En} {a a' : Option Addr} {cap cap' : Nat} {b : Option Nat} (h : KT w wr E a cap a' cap') (hg : wr.grownBy w1 b) (hb : ∀ q, b = some q → w.heap.size + 2 ≤ q) : KT w w1 E a cap a' cap' := by
  obtain ⟨h1, ⟨p0, p1, p2, p3⟩, ⟨g0, g1⟩, h4, h5⟩ := h
  have e0 : w1.heap[w.heap.size]? = wr.heap[w.heap.size]? := hg.block _ (by omega) fun e => by have := hb _ e.symm; omega
  have e1 : w1.heap[w.heap.size + 1]? = wr.heap[w.heap.size + 1]? := hg.block _ (by omega) fun e => by have := hb _ e.symm; omega
  have c0 : ∀ i, w1.cell? ⟨w.heap.size, i, none⟩ = wr.cell? ⟨w.heap.size, i, none⟩ := fun i => World.cell?_of_block (w := wr) (a := ⟨w.heap.size, i, none⟩) e0
  have c1 : ∀ i, w1.cell? ⟨w.heap.size + 1, i, none⟩ = wr.cell? ⟨w.heap.size + 1, i, none⟩ := fun i => World.cell?_of_block (w := wr) (a := ⟨w.heap.size + 1, i, none⟩) e1
  exact ⟨h1.grown hg h1.size (fun q hq => by have := hb q hq; omega), ⟨(c0 _).trans p0, (c0 _).trans p1, (c0 _).trans p2, (c0 _).trans p3⟩, ⟨(c1 _).trans g0, (c1 _).trans g1⟩, fun i => (World.frozen?_of_block (w := wr) (a := ⟨w.heap.size + 1, i, none⟩) e1).trans (h4 i), Nat.le_trans h5 hg.size⟩
theorem KT.new (w : World) (E : En) (a : Option Addr) (cap : Nat) (a' : Option Addr) (cap' : Nat) (t t' : TypeId) : KT w ((w.alloc (.cells #[.int .i64 E.nx, .int .i64 E.ck, .slice a E.p cap, .slice a' E.q cap'] t)).alloc (.cells #[.int .i64 0, .string ⟨#[]⟩] t')) E a cap a' cap' :=
  ⟨(below_new _ _).alloc (by simp) _, (Box4.new _ _ _ _ _ _).alloc _, by have h := Box2.new (w.alloc (.cells #[.int .i64 E.nx, .int .i64 E.ck, .slice a E.p cap, .slice a' E.q cap'] t)) (.int .i64 0) (.string ⟨#[]⟩) t'; simp only [World.size_alloc] at h; exact h, fun i => by simp [go_sem], by simp⟩
end Go.Proofs.YtaelpjjabkkhcaaGreatDoor
