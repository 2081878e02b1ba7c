/- Answers that are logs: equal, marked, held; spec.l3Count, spec.l3Flush. -/
import Derived.Test.YtapggckfacmklaaQDk
import Derived.Lib.SmallJoins
import Derived.Test.YtapggckfacmklaaQLg
import Derived.Test.YtapggckfacmklaaQLh
namespace Go.Proofs.Ytapggckfacmklaa
open Go.RowKit Go.Deep
set_option linter.unusedVariables false
set_option maxRecDepth 20000
open Go.ChangeShapes Go.WideShapes Go.ChangeAt Go.RowKit Go.Deep Go.Joins

/-- The cells of loose writes. -/
def lv (P T : Nat → Int) (S : Nat → Value) (j : Nat) : Value := if j % 3 = 0 then .int .i64 (P (j / 3)) else if j % 3 = 1 then .int .i64 (T (j / 3)) else S (j / 3)
theorem lv0 (P T : Nat → Int) (S : Nat → Value) (i : Nat) : lv P T S (i * 3) = .int .i64 (P i) := by unfold lv; rw [if_pos (by omega)]; congr 2; omega
theorem lv1 (P T : Nat → Int) (S : Nat → Value) (i : Nat) : lv P T S (i * 3 + 1) = .int .i64 (T i) := by unfold lv; rw [if_neg (by omega), if_pos (by omega)]; congr 2; omega
theorem lv2 (P T : Nat → Int) (S : Nat → Value) (i : Nat) : lv P T S (i * 3 + 2) = S i := by unfold lv; rw [if_neg (by omega), if_neg (by omega)]; congr 1; omega
/-- Three new blocks, then what they hold is turned: block B stays. -/
theorem row_far {w w' : World} {lo hi B n : Nat} {f : Nat → Value} {t : TypeId} (h : w.rowIs B t n f) (hw : Writes lo hi w w') (hB : hi ≤ B) : w'.rowIs B t n f := h.of_block (hw.block _ h.lt (.inr hB))
/-- What a disk holds. -/
structure Dk where
  n : Nat
  L : Nat → Nat
  Z : Nat → Nat → Int
  m : Nat
  P : Nat → Int
  T : Nat → Int
  M : Nat → Nat
  Y : Nat → Nat → Int
def DiskAt (w : World) (a a' : Option Addr) (D : Dk) : Prop := PagesAt w a D.n D.L D.Z ∧ LoosesAt w a' D.m D.P D.T D.M D.Y
theorem DiskAt.below {w w' : World} {a a' : Option Addr} {D : Dk} (h : DiskAt w a a' D) (hb : Below w.heap.size w w') : DiskAt w' a a' D := ⟨h.1.below hb, h.2.below hb⟩
/-- A disk in blocks of its own. -/
def OwnD (w : World) (lo hi : Nat) (a a' : Option Addr) (D : Dk) : Prop :=
  hi ≤ w.heap.size ∧ ∃ l1 h1 l2 h2, lo ≤ l1 ∧ h1 ≤ hi ∧ lo ≤ l2 ∧ h2 ≤ hi ∧ (h1 ≤ l2 ∨ h2 ≤ l1) ∧ OwnP w l1 h1 a D.n D.L D.Z ∧ OwnL w l2 h2 a' D.m D.P D.T D.M D.Y
theorem OwnD.at {w : World} {lo hi : Nat} {a a' : Option Addr} {D : Dk} (h : OwnD w lo hi a a' D) : DiskAt w a a' D := by
  obtain ⟨_, l1, h1, l2, h2, _, _, _, _, _, hp, hl⟩ := h
  exact ⟨hp.at, hl.at⟩
theorem OwnD.writes {w w' : World} {lo hi lo' hi' : Nat} {a a' : Option Addr} {D : Dk} (h : OwnD w lo hi a a' D) (hw : Writes lo' hi' w w') (hd : hi ≤ lo' ∨ hi' ≤ lo) : OwnD w' lo hi a a' D := by
  obtain ⟨h0, l1, h1, l2, h2, k1, k2, k3, k4, k5, hp, hl⟩ := h
  exact ⟨Nat.le_trans h0 hw.size, l1, h1, l2, h2, k1, k2, k3, k4, k5, hp.writes hw (by omega), hl.writes hw (by omega)⟩
theorem OwnD.below {w w' : World} {lo hi : Nat} {a a' : Option Addr} {D : Dk} (h : OwnD w lo hi a a' D) (hb : Below w.heap.size w w') : OwnD w' lo hi a a' D :=
  h.writes (Writes.of_below (lo := hi) (hi := hi) hb) (.inl (Nat.le_refl _))
theorem OwnD.wide {w : World} {lo hi lo' hi' : Nat} {a a' : Option Addr} {D : Dk} (h : OwnD w lo hi a a' D) (e1 : lo' ≤ lo) (e2 : hi ≤ hi') (e3 : hi' ≤ w.heap.size) : OwnD w lo' hi' a a' D := by
  obtain ⟨h0, l1, h1, l2, h2, k1, k2, k3, k4, k5, hp, hl⟩ := h
  exact ⟨e3, l1, h1, l2, h2, by omega, by omega, by omega, by omega, k5, hp, hl⟩
/-- A disk that is not greater than the laws' bound. -/
structure Small (D : Dk) : Prop where
  n : D.n ≤ 1048576
  m : D.m ≤ 1048576
  L : ∀ i, i < D.n → D.L i ≤ 1048576
  M : ∀ i, i < D.m → D.M i ≤ 1048576
  s : sumL D.L D.n ≤ 1048576
  t : sumL D.M D.m ≤ 1048576
theorem sumL_ge (L : Nat → Nat) : ∀ n i, i < n → L i ≤ sumL L n
  | 0, i, h => by omega
  | n + 1, i, h => by
    by_cases e : i = n
    · subst e; simp [sumL]
    · have := sumL_ge L n i (by omega); simp only [sumL]; omega
theorem small_of {D : Dk} (h : 0 ≤ (1048576 : Int) - D.n - sumL D.L D.n - D.m - sumL D.M D.m) : Small D :=
  ⟨by omega, by omega, fun i hi => by have := sumL_ge D.L D.n i hi; omega, fun i hi => by have := sumL_ge D.M D.m i hi; omega, by omega, by omega⟩
theorem cells22 : Try.prog.cellsOf 22 = 1 := by kernel_rfl
theorem cells5 : Try.prog.cellsOf 5 = 1 := by kernel_rfl

theorem openBytes {H : Type} {enc : TypeId × Value → H} {W : World} {fuel : Nat} {cs : List Value} {x : DataW H × List MemPlace}
    (h : DataW.trod enc Try.prog W 0 (fun _ => true) true fuel 22 cs = some x) :
    ∃ (a : Option Addr) (n cap : Nat) (z : Nat → Int), cs = [.slice a n cap] ∧ n ≤ 9223372036854775807 ∧ Byt n z ∧ BytesAt W a n z ∧ n ≤ cap := by
  rcases open_ints Try.underlying22 Try.underlying5 cells5 h with ⟨rfl, _⟩ | ⟨a, l, c, zs, rfl, _, hl, hm, hz, _, hcell, hwz⟩
  · exact ⟨none, 0, 0, fun _ => 0, rfl, by omega, fun i hi => by omega, .inl rfl, Nat.le_refl _⟩
  · have hz' : zs.length = c := by simpa using hz
    unfold maxLen at hm
    refine ⟨some a, l, c, fun i => zs.getD i 0, rfl, by omega, fun i hi => ?_, ?_, hl⟩
    · have hin : zs.getD i 0 ∈ zs := by
        rw [List.getD_eq_getElem?_getD, List.getElem?_eq_getElem (by omega)]; simp
      have := hwz _ hin
      simpa [Lit.wf, IntKind.min, IntKind.max, IntKind.signed, IntKind.bits] using this
    · by_cases hz0 : l = 0
      · exact .inl hz0
      · obtain ⟨b, off, spot⟩ := a
        have hc0 := hcell 0 (by omega)
        have hspot : spot = none := by simpa [Addr.add] using World.cell?_spot hc0
        subst hspot
        exact .inr ⟨b, off, rfl, Go.block_lt_of_cell hc0, fun i hi => by have := hcell i (by omega); rwa [add_plain] at this⟩
theorem openPages {H : Type} {enc : TypeId × Value → H} {W : World} {fuel : Nat} {cs : List Value} {x : DataW H × List MemPlace}
    (h : DataW.trod enc Try.prog W 0 (fun _ => true) true fuel 69 cs = some x) :
    ∃ (a : Option Addr) (n cap : Nat) (L : Nat → Nat) (Z : Nat → Nat → Int), cs = [.slice a n cap] ∧ n ≤ 9223372036854775807 ∧ (∀ i, i < n → L i ≤ 9223372036854775807) ∧ (∀ i, i < n → Byt (L i) (Z i)) ∧ PagesAt W a n L Z := by
  rcases open_slice1 Try.underlying69 cells22 h with ⟨rfl, _⟩ | ⟨a, l, c, m, nn, V, D, Pl, rfl, _, hl, hm, hmm, _, hx⟩
  · exact ⟨none, 0, 0, fun _ => 0, fun _ _ => 0, rfl, by omega, fun i hi => by omega, fun i hi => by omega, .inl rfl⟩
  · have hmc : m = c := by simpa using hmm
    unfold maxLen at hm
    have each : ∀ i, i < l → ∃ q : (Option Addr × Nat) × (Nat × (Nat → Int)), V i = .slice q.1.1 q.2.1 q.1.2 ∧ q.2.1 ≤ 9223372036854775807 ∧ Byt q.2.1 q.2.2 ∧ BytesAt W q.1.1 q.2.1 q.2.2 ∧ q.2.1 ≤ q.1.2 := fun i hi => by
      obtain ⟨a', n', c', z', e, h1, h2, h3, h4⟩ := openBytes (hx i (by omega)).2
      simp only [List.cons.injEq, and_true] at e
      exact ⟨((a', c'), (n', z')), e, h1, h2, h3, h4⟩
    obtain ⟨q, hq⟩ := choose_lt each
    refine ⟨some a, l, c, fun i => (q i).2.1, fun i => (q i).2.2, rfl, by omega, fun i hi => (hq i hi).2.1, fun i hi => (hq i hi).2.2.1, ?_⟩
    by_cases hz0 : l = 0
    · exact .inl hz0
    · obtain ⟨b, off, spot⟩ := a
      have hc0 := (hx 0 (by omega)).1
      have hspot : spot = none := by simpa [Addr.add] using World.cell?_spot hc0
      subst hspot
      refine .inr ⟨b, off, rfl, Go.block_lt_of_cell hc0, fun i hi => ⟨(q i).1.1, (q i).1.2, ?_, (hq i hi).2.2.2⟩⟩
      have := (hx i (by omega)).1
      rw [add_plain, (hq i hi).1] at this
      exact this
structure DiskByt (D : Dk) : Prop where
  p : ∀ i, i < D.n → Byt (D.L i) (D.Z i)
  l : ∀ i, i < D.m → Byt (D.M i) (D.Y i)
/-- A log in blocks of its own. -/
def OwnG (w : World) (lo hi : Nat) (a1 a2 : Option Addr) (L : Lo) : Prop := hi ≤ w.heap.size ∧ ∃ l1 h1 l2 h2, lo ≤ l1 ∧ h1 ≤ hi ∧ lo ≤ l2 ∧ h2 ≤ hi ∧ (h1 ≤ l2 ∨ h2 ≤ l1) ∧ OwnB w l1 h1 a1 L.n1 L.z1 ∧ OwnB w l2 h2 a2 L.n2 L.z2
theorem OwnG.at {w : World} {lo hi : Nat} {a1 a2 : Option Addr} {L : Lo} (h : OwnG w lo hi a1 a2 L) : LogAt w a1 a2 L := by
  obtain ⟨_, l1, h1, l2, h2, _, _, _, _, _, hp, hl⟩ := h
  exact ⟨hp.at, hl.at⟩
theorem OwnG.writes {w w' : World} {lo hi lo' hi' : Nat} {a1 a2 : Option Addr} {L : Lo} (h : OwnG w lo hi a1 a2 L) (hw : Writes lo' hi' w w') (hd : hi ≤ lo' ∨ hi' ≤ lo) : OwnG w' lo hi a1 a2 L := by
  obtain ⟨h0, l1, h1, l2, h2, k1, k2, k3, k4, k5, hp, hl⟩ := h
  exact ⟨Nat.le_trans h0 hw.size, l1, h1, l2, h2, k1, k2, k3, k4, k5, hp.writes hw (by omega), hl.writes hw (by omega)⟩
theorem OwnG.below {w w' : World} {lo hi : Nat} {a1 a2 : Option Addr} {L : Lo} (h : OwnG w lo hi a1 a2 L) (hb : Below w.heap.size w w') : OwnG w' lo hi a1 a2 L :=
  h.writes (Writes.of_below (lo := hi) (hi := hi) hb) (.inl (Nat.le_refl _))
theorem OwnG.wide {w : World} {lo hi lo' hi' : Nat} {a1 a2 : Option Addr} {L : Lo} (h : OwnG w lo hi a1 a2 L) (e1 : lo' ≤ lo) (e2 : hi ≤ hi') (e3 : hi' ≤ w.heap.size) : OwnG w lo' hi' a1 a2 L := by
  obtain ⟨h0, l1, h1, l2, h2, k1, k2, k3, k4, k5, hp, hl⟩ := h
  exact ⟨e3, l1, h1, l2, h2, by omega, by omega, by omega, by omega, k5, hp, hl⟩
theorem ownB_rowIs {w : World} {b n lo : Nat} {z : Nat → Int} (h : w.rowIs b 5 n (fun i => .int .u8 (z i))) (hl : lo ≤ b) : OwnB w lo w.heap.size (some ⟨b, 0, none⟩) n z := by
  have r := Row1.of_row h
  exact ⟨Nat.le_refl _, .inr ⟨b, 0, rfl, hl, h.lt, r.1, r.2⟩⟩
/-- A log with marks from m on. -/
def mG (m : Int) (L : Lo) : Lo := ⟨L.n1, bk m, L.n2, bk (m + L.n1)⟩
theorem l3Count_any (L : Lo) (a1 a2 : Option Addr) (c1 c2 : Nat) (w : World) (hn : L.n1 + L.n2 ≤ 1048576) :
    Calls Try.prog 28 #[.agg #[.slice a1 L.n1 c1, .slice a2 L.n2 c2]] w fun e w' => e = .returned (.int .i64 ((L.n1 + L.n2 : Nat) / 13 : Nat)) ∧ Below w.heap.size w w' := by
  have hwr : IntKind.i64.wrap ((L.n1 : Int) + (L.n2 : Int)) = ((L.n1 + L.n2 : Nat) : Int) := by rw [IntKind.wrap_i64]; omega
  have hq : (((L.n1 + L.n2 : Nat) : Int)).tdiv 13 = (((L.n1 + L.n2) / 13 : Nat) : Int) := by rw [Int.tdiv_eq_ediv_of_nonneg (by omega)]; omega
  have hw2 : IntKind.i64.wrap (((L.n1 + L.n2) / 13 : Nat) : Int) = (((L.n1 + L.n2) / 13 : Nat) : Int) := by rw [IntKind.wrap_i64]; omega
  generalize L.n1 + L.n2 = t at *
  go_enter Try.func28, Try.ntmps28
  go_wp2_with fail
  go_ret
  exact ⟨rfl, below_new _ _⟩
end Go.Proofs.Ytapggckfacmklaa
