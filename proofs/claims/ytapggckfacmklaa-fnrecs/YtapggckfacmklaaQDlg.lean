/- Draws of logs: the log that is answered. -/
import Derived.Test.YtapggckfacmklaaQDre
import Derived.Test.YtapggckfacmklaaQAn
import Derived.Test.YtapggckfacmklaaQWae
namespace Go.Proofs.Ytapggckfacmklaa
open Go.RowKit Go.Deep
set_option linter.unusedVariables false
set_option linter.unusedSimpArgs false
set_option maxRecDepth 20000

def BxL (w : World) (B : Nat) (c0 c1 : Value) : Prop := w.cell? ⟨B, 0, none⟩ = some c0 ∧ w.cell? ⟨B, 1, none⟩ = some c1 ∧ ∀ i, w.frozen? ⟨B, i, none⟩ = false
theorem BxL.block {w w' : World} {B : Nat} {c0 c1 : Value} (h : BxL w B c0 c1) (e : w'.heap[B]? = w.heap[B]?) : BxL w' B c0 c1 :=
  ⟨(World.cell?_of_block (w := w) (a := ⟨B, 0, none⟩) e).trans h.1, (World.cell?_of_block (w := w) (a := ⟨B, 1, none⟩) e).trans h.2.1, fun i => (World.frozen?_of_block (w := w) (a := ⟨B, i, none⟩) e).trans (h.2.2 i)⟩
theorem BxL.lt {w : World} {B : Nat} {c0 c1 : Value} (h : BxL w B c0 c1) : B < w.heap.size := Go.block_lt_of_cell h.1
theorem BxL.below {w w' : World} {B : Nat} {c0 c1 : Value} (h : BxL w B c0 c1) (hb : Below w.heap.size w w') : BxL w' B c0 c1 := h.block (hb.block B h.lt)
theorem BxL.new (w : World) (c0 c1 : Value) (T : TypeId) : BxL (w.alloc (.cells #[c0, c1] T)) w.heap.size c0 c1 := by simp [BxL, go_sem]
theorem BxL.set {w : World} {B : Nat} {c0 c1 : Value} (h : BxL w B c0 c1) (x0 x1 : Value) : BxL ((w.setCell ⟨B, 0, none⟩ x0).setCell ⟨B, 1, none⟩ x1) B x0 x1 :=
  ⟨(setO (by omega)).trans (setS h.1), setS ((setO (by omega)).trans h.2.1), fun i => by rw [World.frozen?_setCell, World.frozen?_setCell]; exact h.2.2 i⟩
theorem BxL.other {w : World} {B D i : Nat} {c0 c1 x : Value} (h : BxL w B c0 c1) (hne : B ≠ D) : BxL (w.setCell ⟨D, i, none⟩ x) B c0 c1 := h.block (Below.heap_setCell _ _ _ _ (by show ¬ B = D; exact hne))
theorem Two.keep {m : Nat} {w w' : World} {v1 v2 : Value} {xs ys : List Int} (h : Two m w v1 v2 xs ys) (hb : ∀ q, m ≤ q → q < w.heap.size → (v1.ownBlock = some q ∨ v2.ownBlock = some q) → w'.heap[q]? = w.heap[q]?) : Two m w' v1 v2 xs ys :=
  ⟨own_keep h.1 fun q hq => hb q (own_lt2 h.1 q hq).1 (own_lt2 h.1 q hq).2 (.inl hq), own_keep h.2.1 fun q hq => hb q (own_lt2 h.2.1 q hq).1 (own_lt2 h.2.1 q hq).2 (.inr hq), h.2.2⟩
theorem Two.off {m D i : Nat} {w : World} {v1 v2 x : Value} {xs ys : List Int} (h : Two m w v1 v2 xs ys) (h1 : v1.ownBlock ≠ some D) (h2 : v2.ownBlock ≠ some D) : Two m (w.setCell ⟨D, i, none⟩ x) v1 v2 xs ys :=
  h.keep fun q _ _ hq => Below.heap_setCell _ _ _ _ (by show ¬ q = D; intro e; subst e; rcases hq with e | e <;> contradiction)
/-- A log under way: in the box B, the answer's box is Rr. -/
structure LG (w u : World) (S : Nat) (a : Option Addr) (kk cap : Nat) (z : Nat → Int) (t Rr B : Nat) (v1 v2 : Value) (xs ys : List Int) : Prop where
  d : Dw S a kk cap z t w u
  b : BxL u B v1 v2
  r : BxL u Rr (.slice none 0 0) (.slice none 0 0)
  two : Two (B + 1) u v1 v2 xs ys
  hS : S < w.heap.size
  o1 : w.heap.size ≤ Rr
  o2 : Rr < B
theorem srcL_block {w w2 : World} {S : Nat} {a : Option Addr} {kk cap : Nat} {z : Nat → Int} {t : Nat} (h : Src w S a kk cap z t) (hz : w.heap.size ≤ w2.heap.size) (e : ∀ b, b ≤ S → w2.heap[b]? = w.heap[b]?) : Src w2 S a kk cap z t := by
  have g : ∀ i, w2.cell? ⟨S, i, none⟩ = w.cell? ⟨S, i, none⟩ := fun i => World.cell?_of_block (w := w) (a := ⟨S, i, none⟩) (e S (Nat.le_refl _))
  refine ⟨(g 0).trans h.c0, (g 1).trans h.c1, fun i => (World.frozen?_of_block (w := w) (a := ⟨S, i, none⟩) (e S (Nat.le_refl _))).trans (h.f i), ?_, h.far, h.byt, h.len⟩
  rcases h.b with e1 | ⟨b, off, rfl, hl, hc⟩
  · exact .inl e1
  · rcases h.far b off rfl with e1 | e1
    · exact .inl e1
    · exact .inr ⟨b, off, rfl, Nat.lt_of_lt_of_le hl hz, fun i hi => (World.cell?_of_block (w := w) (a := ⟨b, off + i, none⟩) (e b (by omega))).trans (hc i hi)⟩
/-- A cell of a new block, not the list's, is set. -/
theorem LG.below {w u u2 : World} {S : Nat} {a : Option Addr} {kk cap : Nat} {z : Nat → Int} {t Rr B : Nat} {v1 v2 : Value} {xs ys : List Int} (h : LG w u S a kk cap z t Rr B v1 v2 xs ys) (hb : Below u.heap.size u u2) : LG w u2 S a kk cap z t Rr B v1 v2 xs ys :=
  ⟨h.d.below hb, h.b.below hb, h.r.below hb, h.two.below hb, h.hS, h.o1, h.o2⟩
theorem LG.dw {w u u2 : World} {S : Nat} {a : Option Addr} {kk cap : Nat} {z : Nat → Int} {t Rr B : Nat} {v1 v2 : Value} {xs ys : List Int} {t' : Nat} (h : LG w u S a kk cap z t Rr B v1 v2 xs ys) (g : Dw S a kk cap z t' u u2) : LG w u2 S a kk cap z t' Rr B v1 v2 xs ys := by
  have h1 := h.hS
  have h2 := h.o1
  have h3 := h.o2
  exact ⟨h.d.trans g, h.b.block (g.1.block B h.b.lt (by omega)), h.r.block (g.1.block Rr h.r.lt (by omega)), h.two.keep fun q k1 k2 _ => g.1.block q k2 (by omega), h1, h2, h3⟩
theorem dw_off {w wr : World} {S : Nat} {a : Option Addr} {kk cap : Nat} {z : Nat → Int} {t g : Nat} (h : Dw S a kk cap z t w wr) (hg : w.heap.size ≤ g) (hS : S < w.heap.size) (k : Nat) (x : Value) : Dw S a kk cap z t w (wr.setCell ⟨g, k, none⟩ x) := by
  have e : ∀ q, q ≠ g → (wr.setCell ⟨g, k, none⟩ x).heap[q]? = wr.heap[q]? := fun q hq => Below.heap_setCell _ _ _ _ (by show ¬ q = g; exact hq)
  have hz : (wr.setCell ⟨g, k, none⟩ x).heap.size = wr.heap.size := by simp [World.setCell]
  have h1 := h.1
  exact ⟨⟨h1.os, h1.tape, h1.output, by rw [hz]; exact h1.size, fun q hq hd => (e q (by omega)).trans (h1.block q hq hd)⟩, srcL_block h.2 (by rw [hz]; exact Nat.le_refl _) fun q hq => e q (by omega)⟩
theorem LG.off {w u : World} {S : Nat} {a : Option Addr} {kk cap : Nat} {z : Nat → Int} {t Rr B : Nat} {v1 v2 : Value} {xs ys : List Int} {D i : Nat} {x : Value} (h : LG w u S a kk cap z t Rr B v1 v2 xs ys) (hD : B < D) (h1 : v1.ownBlock ≠ some D) (h2 : v2.ownBlock ≠ some D) : LG w (u.setCell ⟨D, i, none⟩ x) S a kk cap z t Rr B v1 v2 xs ys := by
  have k1 := h.hS
  have k2 := h.o1
  have k3 := h.o2
  exact ⟨dw_off h.d (by omega) k1 i x, h.b.other (by omega), h.r.other (by omega), h.two.off h1 h2, k1, k2, k3⟩
theorem LG.put {w u : World} {S : Nat} {a : Option Addr} {kk cap : Nat} {z : Nat → Int} {t Rr B : Nat} {v1 v2 : Value} {xs ys : List Int} {x1 x2 : Value} {xs' ys' : List Int} (h : LG w u S a kk cap z t Rr B v1 v2 xs ys) (ht : Two (B + 1) u x1 x2 xs' ys') : LG w ((u.setCell ⟨B, 0, none⟩ x1).setCell ⟨B, 1, none⟩ x2) S a kk cap z t Rr B x1 x2 xs' ys' := by
  have k1 := h.hS
  have k2 := h.o1
  have k3 := h.o2
  have n1 : x1.ownBlock ≠ some B := fun e => by have := (own_lt2 ht.1 B e).1; omega
  have n2 : x2.ownBlock ≠ some B := fun e => by have := (own_lt2 ht.2.1 B e).1; omega
  exact ⟨dw_off (dw_off h.d (by omega) k1 0 x1) (by omega) k1 1 x2, h.b.set x1 x2, (h.r.other (by omega)).other (by omega), (ht.off n1 n2).off n1 n2, k1, k2, k3⟩
theorem LG.put1 {w u : World} {S : Nat} {a : Option Addr} {kk cap : Nat} {z : Nat → Int} {t Rr B : Nat} {v1 v2 : Value} {xs ys : List Int} {x2 : Value} {ys' : List Int} (h : LG w u S a kk cap z t Rr B v1 v2 xs ys) (ht : Two (B + 1) u v1 x2 xs ys') : LG w (u.setCell ⟨B, 1, none⟩ x2) S a kk cap z t Rr B v1 x2 xs ys' := by
  have k1 := h.hS
  have k2 := h.o1
  have k3 := h.o2
  have n1 : v1.ownBlock ≠ some B := fun e => by have := (own_lt2 ht.1 B e).1; omega
  have n2 : x2.ownBlock ≠ some B := fun e => by have := (own_lt2 ht.2.1 B e).1; omega
  exact ⟨dw_off h.d (by omega) k1 1 x2, ⟨(setO (by omega)).trans h.b.1, setS h.b.2.1, fun i => by rw [World.frozen?_setCell]; exact h.b.2.2 i⟩, h.r.other (by omega), ht.off n1 n2, k1, k2, k3⟩
theorem LG.put0 {w u : World} {S : Nat} {a : Option Addr} {kk cap : Nat} {z : Nat → Int} {t Rr B : Nat} {v1 v2 : Value} {xs ys : List Int} {x1 : Value} {xs' : List Int} (h : LG w u S a kk cap z t Rr B v1 v2 xs ys) (ht : Two (B + 1) u x1 v2 xs' ys) : LG w (u.setCell ⟨B, 0, none⟩ x1) S a kk cap z t Rr B x1 v2 xs' ys := by
  have k1 := h.hS
  have k2 := h.o1
  have k3 := h.o2
  have n1 : x1.ownBlock ≠ some B := fun e => by have := (own_lt2 ht.1 B e).1; omega
  have n2 : v2.ownBlock ≠ some B := fun e => by have := (own_lt2 ht.2.1 B e).1; omega
  exact ⟨dw_off h.d (by omega) k1 0 x1, ⟨setS h.b.1, (setO (by omega)).trans h.b.2.1, fun i => by rw [World.frozen?_setCell]; exact h.b.2.2 i⟩, h.r.other (by omega), ht.off n1 n2, k1, k2, k3⟩
def loOf (xs ys : List Int) : Lo := ⟨xs.length, zOf xs, ys.length, zOf ys⟩
theorem row_at {w : World} {base : Nat} {v : Value} {zs : List Int} (h : w.ownsRow base 5 1 v zs.length (bl zs)) : ∃ a c, v = .slice a zs.length c ∧ zs.length ≤ c ∧ BytesAt w a zs.length (zOf zs) := by
  obtain ⟨a, c, rfl, ho⟩ := ownB_of_row h
  exact ⟨a, c, rfl, own_cap h, ho.at⟩
theorem Two.log {m : Nat} {w : World} {v1 v2 : Value} {xs ys : List Int} (h : Two m w v1 v2 xs ys) : ∃ a1 c1 a2 c2, v1 = .slice a1 xs.length c1 ∧ v2 = .slice a2 ys.length c2 ∧ xs.length ≤ c1 ∧ ys.length ≤ c2 ∧ LogAt w a1 a2 (loOf xs ys) := by
  obtain ⟨a1, c1, e1, h1, k1⟩ := row_at h.1
  obtain ⟨a2, c2, e2, h2, k2⟩ := row_at h.2.1
  exact ⟨a1, c1, a2, c2, e1, e2, h1, h2, k1, k2⟩
theorem l3Flush_own (xs ys : List Int) (a1 a2 : Option Addr) (c1 c2 : Nat) (w : World) (hs : xs.length + ys.length ≤ 90000) (h : LogAt w a1 a2 (loOf xs ys)) :
    Calls Try.prog 41 #[.agg #[.slice a1 xs.length c1, .slice a2 ys.length c2]] w fun e w' => ∃ x1 d1, e = .returned (.agg #[.slice x1 (xs ++ ys).length d1, .slice none 0 0]) ∧ Below w.heap.size w w' ∧ Two (w.heap.size + 1) w' (.slice x1 (xs ++ ys).length d1) (.slice none 0 0) (xs ++ ys) [] := by
  have HA : Hid (LogAt w a1 a2 (loOf xs ys)) := h
  clear h
  go_enter Try.func41, Try.ntmps41
  go_wp2_with fail
  have BX := (BxL.new (w.alloc (.cells #[.slice a1 xs.length c1, .slice a2 ys.length c2] 25)) (.slice none 0 0) (.slice none 0 0) 25)
  rw [World.size_alloc] at BX
  have hbw : ∀ o1 o2, Below w.heap.size w ((w.alloc o1).alloc o2) := fun o1 o2 => ((Below.refl _ _).alloc (Nat.le_refl _) _).alloc (by simp) _
  have hsz : ∀ o1 o2, ((w.alloc o1).alloc o2).heap.size = w.heap.size + 2 := fun o1 o2 => by simp
  refine (l3All_any (loOf xs ys) a1 a2 c1 c2 _ hs (HA.out.below (hbw _ _))).mono ?_
  rintro e w1 ⟨v, rfl, hb1, ra, rc, rfl, hrc, hown, -⟩
  have hla : aL (loOf xs ys) = xs ++ ys := by
    show zL (zOf xs) xs.length ++ zL (zOf ys) ys.length = xs ++ ys
    rw [zL_zOf, zL_zOf]
  have hll : (loOf xs ys).n1 + (loOf xs ys).n2 = (xs ++ ys).length := by simp [loOf]
  rw [hla] at hown
  rw [hll] at hown ⊢
  rw [hsz] at hown
  obtain ⟨q0, q1, qf⟩ := BX.below hb1
  have hB := below_then (hbw _ _) hb1
  have HF : Hid (∀ x0 x1 : Value, Below w.heap.size w ((w1.setCell ⟨w.heap.size + 1, 0, none⟩ x0).setCell ⟨w.heap.size + 1, 1, none⟩ x1) ∧ Two (w.heap.size + 1) ((w1.setCell ⟨w.heap.size + 1, 0, none⟩ x0).setCell ⟨w.heap.size + 1, 1, none⟩ x1) (.slice ra (xs ++ ys).length rc) (.slice none 0 0) (xs ++ ys) []) := fun x0 x1 => by
    have n1 : (Value.slice ra (xs ++ ys).length rc).ownBlock ≠ some (w.heap.size + 1) := fun e => by have := (own_lt2 hown _ e).1; omega
    have n2 : (Value.slice none 0 0).ownBlock ≠ some (w.heap.size + 1) := by simp [Value.ownBlock]
    have h2 : Two (w.heap.size + 1) w1 (.slice ra (xs ++ ys).length rc) (.slice none 0 0) (xs ++ ys) [] := ⟨own_down hown (by omega), World.ownsRow_nil _ _ _ _, fun q _ e => by simp [Value.ownBlock] at e⟩
    exact ⟨(hB.setCell (p := ⟨w.heap.size + 1, 0, none⟩) (Nat.le_succ _) _).setCell (p := ⟨w.heap.size + 1, 1, none⟩) (Nat.le_succ _) _, (h2.off n1 n2).off n1 n2⟩
  clear hown hB hb1 hbw hsz hla hll hrc
  obtain ⟨zs, hzs⟩ : ∃ l, l = xs ++ ys := ⟨_, rfl⟩
  have HZ : Hid (zs = xs ++ ys) := hzs
  rw [← hzs] at HF ⊢
  clear hzs
  go_wp2_with fail
  refine bodyPost_ret (v := .agg #[.slice ra zs.length rc, .slice none 0 0]) (by simp [results, Try.results41, go_sem, *]) rfl ?_
  rw [← HZ.out]
  exact ⟨ra, rc, rfl, (HF.out _ _).1, (HF.out _ _).2⟩
theorem ownB_row {w : World} {base : Nat} {a : Option Addr} {c : Nat} {zs : List Int} (h : w.ownsRow base 5 1 (.slice a zs.length c) zs.length (bl zs)) : OwnB w base w.heap.size a zs.length (zOf zs) := by
  obtain ⟨a', c', e, ho⟩ := ownB_of_row h
  injection e with e1 _ _
  rw [e1]
  exact ho
theorem byt_zOf {zs : List Int} (h : BytL zs) : Byt zs.length (zOf zs) := fun i hi => by
  have e : zOf zs i = zs[i] := by simp [zOf, hi]
  rw [e]
  exact h _ (List.getElem_mem hi)
/-- The log at the end: in the box B. -/
structure LE (w u : World) (S : Nat) (a : Option Addr) (kk cap : Nat) (z : Nat → Int) (t Rr B : Nat) (a1 : Option Addr) (n1 c1 : Nat) (a2 : Option Addr) (n2 c2 : Nat) (z1 z2 : Nat → Int) : Prop where
  d : Dw S a kk cap z t w u
  b : BxL u B (.slice a1 n1 c1) (.slice a2 n2 c2)
  r : BxL u Rr (.slice none 0 0) (.slice none 0 0)
  p : OwnB u (B + 1) u.heap.size a1 n1 z1
  q : OwnB u (B + 1) u.heap.size a2 n2 z2
  k1 : n1 ≤ c1
  k2 : n2 ≤ c2
  b1 : Byt n1 z1
  b2 : Byt n2 z2
  m1 : n1 ≤ 4001
  m2 : n2 ≤ 4002
  hS : S < w.heap.size
  o1 : w.heap.size ≤ Rr
  o2 : Rr < B
section
variable {w u u2 : World} {S : Nat} {a : Option Addr} {kk cap : Nat} {z : Nat → Int} {t Rr B : Nat} {a1 a2 : Option Addr} {c1 c2 : Nat} {xs ys : List Int}
theorem LE.of (h : LG w u S a kk cap z t Rr B (.slice a1 xs.length c1) (.slice a2 ys.length c2) xs ys) (hs : xs.length + ys.length ≤ 4000) (hb : BytL xs ∧ BytL ys) : LE w u S a kk cap z t Rr B a1 xs.length c1 a2 ys.length c2 (zOf xs) (zOf ys) :=
  ⟨h.d, h.b, h.r, ownB_row h.two.1, ownB_row h.two.2.1, own_cap h.two.1, own_cap h.two.2.1, byt_zOf hb.1, byt_zOf hb.2, by omega, by omega, h.hS, h.o1, h.o2⟩
theorem size_set {u : World} {p : Addr} {x : Value} : (u.setCell p x).heap.size = u.heap.size := by simp [World.setCell]
theorem set_at {u : World} {D i q : Nat} {x : Value} (h : q ≠ D) : (u.setCell ⟨D, i, none⟩ x).heap[q]? = u.heap[q]? := Below.heap_setCell _ _ _ _ (by show ¬ q = D; exact h)
/-- Two bytes more in Loose. -/
theorem LE.app {a3 : Option Addr} {c3 : Nat} {l : List Int} (h : LG w u S a kk cap z t Rr B (.slice a1 xs.length c1) (.slice a2 ys.length c2) xs ys) (g : u.grownBy u2 (Value.slice a2 ys.length c2).ownBlock) (ho : u2.ownsRow (B + 1) 5 1 (.slice a3 l.length c3) l.length (bl l)) (hs : xs.length + ys.length ≤ 4000) (hl : l.length ≤ ys.length + 2) (b1 : BytL xs) (b2 : BytL l) :
    LE w (u2.setCell ⟨B, 1, none⟩ (.slice a3 l.length c3)) S a kk cap z t Rr B a1 xs.length c1 a3 l.length c3 (zOf xs) (zOf l) := by
  have k1 := h.hS
  have k2 := h.o1
  have k3 := h.o2
  have hv : ∀ q, (Value.slice a2 ys.length c2).ownBlock = some q → B + 1 ≤ q := fun q hq => (own_lt2 h.two.2.1 q hq).1
  have hB := h.b.lt
  have hR := h.r.lt
  have hd : Dw S a kk cap z t w u2 := h.d.over ((Below.refl _ _).grown g (by omega) (fun q hq => by have := hv q hq; omega)) k1
  have gb : BxL u2 B (.slice a1 xs.length c1) (.slice a2 ys.length c2) := h.b.block (g.block B hB fun e => by have := hv B e.symm; omega)
  have gr : BxL u2 Rr (.slice none 0 0) (.slice none 0 0) := h.r.block (g.block Rr hR fun e => by have := hv Rr e.symm; omega)
  have g1 : u2.ownsRow (B + 1) 5 1 (.slice a1 xs.length c1) xs.length (bl xs) := own_keep h.two.1 fun q hq => g.block q (own_lt2 h.two.1 q hq).2 fun e => h.two.2.2 q hq e.symm
  have n1 : ∀ q, (Value.slice a1 xs.length c1).ownBlock = some q → q ≠ B := fun q e => by have := (own_lt2 g1 q e).1; omega
  have n2 : ∀ q, (Value.slice a3 l.length c3).ownBlock = some q → q ≠ B := fun q e => by have := (own_lt2 ho q e).1; omega
  exact ⟨dw_off hd (by omega) k1 1 _, ⟨(setO (by omega)).trans gb.1, setS gb.2.1, fun i => by rw [World.frozen?_setCell]; exact gb.2.2 i⟩, gr.other (by omega), ownB_row (own_keep g1 fun q hq => set_at (n1 q hq)), ownB_row (own_keep ho fun q hq => set_at (n2 q hq)), own_cap g1, own_cap ho, byt_zOf b1, byt_zOf b2, by omega, by omega, k1, k2, k3⟩
theorem own_head {w : World} {base : Nat} {a : Option Addr} {c : Nat} {zs : List Int} (h : w.ownsRow base 5 1 (.slice a zs.length c) zs.length (bl zs)) (hp : 0 < zs.length) : ∃ g, a = some ⟨g, 0, none⟩ ∧ base ≤ g ∧ g < w.heap.size ∧ (∀ i, i < zs.length → w.cell? ⟨g, i, none⟩ = some (.int .u8 (zOf zs i))) ∧ ∀ i, w.frozen? ⟨g, i, none⟩ = false := by
  have hb := h
  obtain ⟨h1, ⟨-, h0⟩ | ⟨g, cap, cur, e, k1, k2, k3⟩⟩ := h
  · omega
  · injection e with e1 e2 e3
    subst e1
    refine ⟨g, rfl, k1, (Array.getElem?_eq_some_iff.1 k2).1, fun i hi => ?_, fun i => hb.frozenAt _⟩
    rcases (ownB_row hb).at with h | ⟨b', off', e4, _, hc4⟩
    · omega
    · injection e4 with e4
      injection e4 with e5 e6
      subst e5 e6
      have := hc4 i hi
      rw [Nat.zero_add] at this
      exact this
/-- A byte of Sure is another. -/
theorem LE.byte {g j : Nat} {x : Int} (h : LG w u S a kk cap z t Rr B (.slice (some ⟨g, 0, none⟩) xs.length c1) (.slice a2 ys.length c2) xs ys) (hs : xs.length + ys.length ≤ 4000) (hb : BytL xs ∧ BytL ys) (hj : j < xs.length) (hx : 0 ≤ x ∧ x ≤ 255) :
    LE w (u.setCell ⟨g, j, none⟩ (.int .u8 x)) S a kk cap z t Rr B (some ⟨g, 0, none⟩) xs.length c1 a2 ys.length c2 (fun i => if i = j then x else zOf xs i) (zOf ys) := by
  have k1 := h.hS
  have k2 := h.o1
  have k3 := h.o2
  obtain ⟨g', eg, hg1, hg2, hcl, hfz⟩ := own_head h.two.1 (by omega)
  injection eg with eg
  injection eg with eg _
  subst eg
  have n2 : ∀ q, (Value.slice a2 ys.length c2).ownBlock = some q → q ≠ g := fun q e e2 => by subst e2; exact h.two.2.2 q rfl e
  refine ⟨dw_off h.d (by omega) k1 j _, h.b.other (by omega), h.r.other (by omega), ⟨Nat.le_refl _, .inr ⟨g, 0, rfl, hg1, by rw [size_set]; exact hg2, fun i hi => ?_, fun i hi => by rw [World.frozen?_setCell]; exact hfz _⟩⟩, ownB_row (own_keep h.two.2.1 fun q hq => set_at (n2 q hq)), own_cap h.two.1, own_cap h.two.2.1, fun i hi => ?_, byt_zOf hb.2, by omega, by omega, k1, k2, k3⟩
  · rw [Nat.zero_add]
    by_cases e : i = j
    · subst e
      simp only [if_true]
      exact setS (hcl i hi)
    · simp only [if_neg e]
      rw [setO (by omega)]
      exact hcl i hi
  · split
    · exact hx
    · exact byt_zOf hb.1 i hi
theorem run_make_bytes (n : Nat) (hn : n ≤ 1048576) (w : World) :
    (Instr.makeSlice 22 (.int .i64 (n : Int)) (.int .i64 (n : Int))).run Try.prog w = .ok (.slice (some ⟨w.heap.size, 0, none⟩) n n) (w.alloc (.cells (madeCells #[.int .u8 0] n) 5)) := by
  obtain ⟨i, hi, hzz⟩ := Option.map_eq_some_iff.1 info5
  simp only [Prod.mk.injEq] at hzz
  obtain ⟨hz, hs, hb⟩ := hzz
  have hr := run_make (P := Try.prog) w 22 5 i _ Try.underlying22 hi hz .i64 .i64 n n (by omega) (Int.le_refl _) (by rw [hb]; omega) (by omega)
  simp only [Int.toNat_natCast, hs, Nat.mul_one] at hr
  exact hr
/-- Sure is made anew, too long. -/
theorem LE.made {Z : Array Value} (hZ : Z = madeCells #[.int .u8 0] 4001) (h : LG w u S a kk cap z t Rr B (.slice a1 xs.length c1) (.slice a2 ys.length c2) xs ys) (hs : xs.length + ys.length ≤ 4000) (hb : BytL xs ∧ BytL ys) :
    LE w ((u.alloc (.cells Z 5)).setCell ⟨B, 0, none⟩ (.slice (some ⟨u.heap.size, 0, none⟩) 4001 4001)) S a kk cap z t Rr B (some ⟨u.heap.size, 0, none⟩) 4001 4001 a2 ys.length c2 (fun _ => 0) (zOf ys) := by
  have k1 := h.hS
  have k2 := h.o1
  have k3 := h.o2
  have hB := h.b.lt
  have hn := h.below (below_new u (.cells Z 5))
  have n2 : ∀ q, (Value.slice a2 ys.length c2).ownBlock = some q → q ≠ B := fun q e => by have := (own_lt2 h.two.2.1 q e).1; omega
  have hsz : Z.size = 4001 := by rw [hZ]; exact size_madeCells _ _
  have hc : ∀ i, i < 4001 → (u.alloc (.cells Z 5)).cell? ⟨u.heap.size, i, none⟩ = some (.int .u8 0) := fun i hi => by
    have e : Z[i]? = some (.int .u8 0) := by
      have e2 : Z.toList = List.replicate 4001 (.int .u8 0) := by rw [hZ]; exact toList_madeCells_one _ _
      rw [← Array.getElem?_toList, e2, List.getElem?_replicate, if_pos hi]
    simp [go_sem, e]
  refine ⟨dw_off hn.d (by omega) k1 0 _, ⟨setS hn.b.1, (setO (by omega)).trans hn.b.2.1, fun i => by rw [World.frozen?_setCell]; exact hn.b.2.2 i⟩, hn.r.other (by omega), ⟨Nat.le_refl _, .inr ⟨u.heap.size, 0, rfl, by omega, by rw [size_set, World.size_alloc]; omega, fun i hi => ?_, fun i hi => by rw [World.frozen?_setCell]; simp [go_sem]⟩⟩, ownB_row (own_keep hn.two.2.1 fun q hq => set_at (n2 q hq)), Nat.le_refl _, own_cap h.two.2.1, fun i hi => by omega, byt_zOf hb.2, by omega, by omega, k1, k2, k3⟩
  rw [Nat.zero_add]
  exact (World.cell?_of_block (w := u.alloc (.cells Z 5)) (a := ⟨u.heap.size, i, none⟩) (set_at (q := u.heap.size) (by omega))).trans (hc i hi)
end
end Go.Proofs.Ytapggckfacmklaa
