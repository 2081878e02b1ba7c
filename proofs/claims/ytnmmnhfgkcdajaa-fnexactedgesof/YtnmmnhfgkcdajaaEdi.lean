/- Edges: the model's side: an edge put behind all others, once. -/
import Derived.Test.YtnmmnhfgkcdajaaEdh
namespace Go.Proofs.Ytnmmnhfgkcdajaa
open Go.RowKit Go.Deep
set_option linter.unusedVariables false
set_option maxRecDepth 20000

def Bx3 (w : World) (B : Nat) (e : Ed) : Prop := w.cell? ⟨B, 0, none⟩ = some (.int .i64 e.f) ∧ w.cell? ⟨B, 1, none⟩ = some (.int .i64 e.t) ∧ w.cell? ⟨B, 2, none⟩ = some (.int .i64 e.k)
theorem Bx3.new (w : World) (e : Ed) (t : TypeId) : Bx3 (w.alloc (.cells #[.int .i64 e.f, .int .i64 e.t, .int .i64 e.k] t)) w.heap.size e := ⟨by simp [go_sem], by simp [go_sem], by simp [go_sem]⟩
theorem Bx3.below {w w' : World} {B : Nat} {e : Ed} (h : Bx3 w B e) (hb : Below w.heap.size w w') : Bx3 w' B e := ⟨cell_below h.1 hb, cell_below h.2.1 hb, cell_below h.2.2 hb⟩
theorem grow_any {W W' : World} (h : Below W.heap.size W W') (r : Option Nat) : W.grownBy W' r := ⟨h.os, h.tape, h.output, h.size, fun k hk _ => h.block k hk⟩
theorem grow_then {W W1 W2 : World} {r : Option Nat} (h : Below W.heap.size W W1) (g : W1.grownBy W2 r) : W.grownBy W2 r :=
  ⟨g.os.trans h.os, g.tape.trans h.tape, g.output.trans h.output, Nat.le_trans h.size g.size, fun k hk hr => (g.block k (Nat.lt_of_lt_of_le hk h.size) hr).trans (h.block k hk)⟩
theorem ed_eq {x e : Ed} (h1 : (x.f == e.f) = true) (h2 : (x.t == e.t) = true) (h3 : (x.k == e.k) = true) : x = e := by
  cases x; cases e; simp_all
def AdR (l : List Ed) (e : Ed) (base : Nat) (v : Value) (w : World) (en : Ending) (w' : World) : Prop := ∃ v', en = .returned v' ∧ OwnE w' base v' (adE l e) ∧ w.grownBy w' v.ownBlock
set_option maxHeartbeats 4000000 in
theorem l11Add_any (l : List Ed) (e : Ed) (base : Nat) (a : Option Addr) (cap : Nat) (w : World) (hl : l.length ≤ 90000) (hb : base ≤ w.heap.size) (ho : OwnE w base (.slice a l.length cap) l) :
    Calls Try.prog 59 #[.slice a l.length cap, .agg #[.int .i64 e.f, .int .i64 e.t, .int .i64 e.k]] w (AdR l e base (.slice a l.length cap) w) := by
  have HO : Hid (OwnE w base (.slice a l.length cap) l) := ho
  have HB0 : Hid (∀ o, Below w.heap.size w (w.alloc o)) := fun o => below_new _ _
  have HX0 := Bx3.new w e 61
  replace HX0 : Hid (Bx3 (w.alloc (.cells #[.int .i64 e.f, .int .i64 e.t, .int .i64 e.k] 61)) w.heap.size e) := HX0
  have HYES : Hid (∀ k, k < l.length → eE l k = e → adE l e = l) := fun k hk q => by
    unfold adE; rw [if_pos (memE_iff.2 (by rw [← q]; exact eE_mem hk))]
  have HNOT : Hid ((∀ k, k < l.length → eE l k ≠ e) → adE l e = l ++ [e]) := fun q => by
    unfold adE; rw [if_neg]
    intro hm
    obtain ⟨i, hi, q2⟩ := mem_eE (memE_iff.1 hm)
    exact q i hi q2
  clear ho
  go_enter Try.func59, Try.ntmps59
  go_wp2_with fail
  go_loopw [5] (fun i wr => ∃ k : Nat, k ≤ l.length ∧ i = .int .i64 k ∧ Hid (Below w.heap.size w wr) ∧ Hid (Bx3 wr w.heap.size e) ∧ Hid (∀ i, i < k → eE l i ≠ e)) (fun i _ => l.length - (intOf i).toNat)
  case atStart => exact ⟨0, Nat.zero_le _, rfl, HB0.out _, HX0, fun i hi => by omega⟩
  case round =>
    clear HX0
    obtain ⟨k, hk, rfl, HB, HX, HN⟩ := hrel
    have hk9 : k ≤ 90000 := by omega
    obtain ⟨y0, y1, y2⟩ := HX.out
    by_cases hlt : k < l.length
    · have hlt' : (k : Int) < (l.length : Int) := by omega
      have hk0 : (0 : Int) ≤ (k : Int) := by omega
      rcases (ownE_at HO.out).below HB.out with h | ⟨bb, off, rfl, hbl, hcc⟩
      · rw [h] at hlt; simp at hlt
      obtain ⟨e0, e1, e2⟩ := el_at l k hlt
      have x0 := hcc _ _ e0
      have x1 := hcc _ _ e1
      have x2 := hcc _ _ e2
      rw [← Nat.add_assoc] at x1 x2
      have HY : Hid (eE l k = e → adE l e = l) := HYES.out k hlt
      have HM : Hid (eE l k ≠ e → ∀ i, i < k + 1 → eE l i ≠ e) := fun q i hi => by
        by_cases z : i = k
        · subst z; exact q
        · exact HN.out i (by omega)
      clear hcc e0 e1 e2
      generalize eE l k = x at *
      obtain h1 | h1 := boolor (x.f == e.f) <;> obtain h2 | h2 := boolor (x.t == e.t) <;> obtain h3 | h3 := boolor (x.k == e.k)
      case inl.inl.inl =>
        have HE : Hid (adE l e = l) := HY.out (ed_eq h1 h2 h3)
        clear HY HM
        go_wp2_with fail
        go_quiet (fail)
        go_wp2_with fail
        go_ret
        exact ⟨_, rfl, by rw [HE.out]; exact own_belowI HO.out (below_drewN HB.out _), grow_any (below_drewN HB.out _) _⟩
      all_goals
        have HE : Hid (∀ i, i < k + 1 → eE l i ≠ e) := HM.out (fun q => by subst q; simp_all)
        clear HY HM
        go_wp2_with fail
        go_quiet (fail)
        go_wp2_with fail
        go_roundw
        case rel => exact ⟨k + 1, hlt, by go_num, below_drewN HB.out _, HX.out.below (below_drewN (Below.refl _ _) _), HE⟩
        case measure => simp [intOf]; omega
    · have hkn : k = l.length := by omega
      have hnl : ¬ ((k : Int) < (l.length : Int)) := by omega
      have HE : Hid (adE l e = l ++ [e]) := HNOT.out (by rw [← hkn]; exact HN.out)
      have HOA : Hid (∀ o, OwnE (wr.alloc o) base (.slice a l.length cap) l) := fun o => own_belowI HO.out (below_then HB.out (below_new _ _))
      have HBA : Hid (∀ o, Below w.heap.size w (wr.alloc o)) := fun o => below_then HB.out (below_new _ _)
      have hszr := HB.out.size
      have HLL : Hid (l.length + 1 ≤ 100000) := by show _ ≤ _; omega
      clear HYES HNOT HN hkn
      go_wp2_with (at_builtin; refine wpList_appE _ rfl (.tmp 19) (.tmp 21) rfl base _ l [e] rfl (HOA.out _) (some ⟨wr.heap.size, 0, none⟩) 1 1 rfl rfl (ed_new _ e _) HLL.out (Nat.le_trans (Nat.le_trans hb hszr) (below_new wr _).size) ?_)
      intro v2 w5 ho5 hg5
      have HF : Hid (AdR l e base (.slice a l.length cap) w (.returned v2) w5) := ⟨_, rfl, by rw [HE.out]; exact ho5, grow_then (HBA.out _) hg5⟩
      obtain ⟨xa, xc, rfl⟩ := rowE_slice ho5
      clear ho5 hg5 HOA HBA HE
      generalize (l ++ [e]).length = tl at *
      go_wp2_with fail
      go_ret
      exact HF.out
end Go.Proofs.Ytnmmnhfgkcdajaa
