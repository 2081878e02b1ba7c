/- A reply told in a line: as a function; a reply that is an argument, its numbers bounded. -/
import Derived.Test.YtfipdkhbehfohaaDoorYia
import Derived.Test.YtfipdkhbehfohaaDoorYsf
import Derived.Test.YtfipdkhbehfohaaDoorRpa
import Derived.Test.YtfipdkhbehfohaaDoorFault
import Derived.Lib.SmallJoins
namespace Go.Proofs.YtfipdkhbehfohaaDoor
open Go.ChangeShapes Go.WideShapes Go.ChangeAt Go.RowKit Go.Deep Go.Joins
set_option linter.unusedVariables false
set_option maxRecDepth 20000

theorem decW_any (x : Int) (h0 : 0 ≤ x) (h1 : x ≤ 9223372036854775807) (w : World) (hp : PowAt w) : Calls Tryd.prog 14 #[.int .i64 x] w fun e w' => e = .returned (.string (dg x.toNat)) ∧ Below w.heap.size w w' := by
  obtain ⟨n, rfl⟩ : ∃ n : Nat, x = n := ⟨x.toNat, by omega⟩
  exact decimal_any n (by omega) w hp
theorem digW_any (x : Int) (h0 : 0 ≤ x) (h1 : x ≤ 9223372036854775807) (w : World) : Calls Tryd.prog 11 #[.int .i64 x] w fun e w' => e = .returned (.string (dg x.toNat)) ∧ Below w.heap.size w w' := by
  obtain ⟨n, rfl⟩ : ∃ n : Nat, x = n := ⟨x.toNat, by omega⟩
  exact l7Digits_any n (by omega) w
def eqB : ByteArray := ⟨#[61]⟩
def okB : ByteArray := ⟨#[111, 107]⟩
def noB : ByteArray := ⟨#[33, 32]⟩
def cwd (k v : Int) : ByteArray := dg k.toNat ++ eqB ++ dg v.toNat
def rwl (x : Int) (K V : Nat → Int) (n : Nat) : List ByteArray := okB :: dg x.toNat :: (List.range n).map fun j => cwd (K j) (V j)
def rtx (x : Int) (K V : Nat → Int) : Nat → ByteArray
  | 0 => okB ++ blk ++ dg x.toNat
  | n + 1 => rtx x K V n ++ blk ++ cwd (K n) (V n)
theorem rwl_succ (x : Int) (K V : Nat → Int) (n : Nat) : rwl x K V (n + 1) = rwl x K V n ++ [cwd (K n) (V n)] := by simp [rwl, List.range_succ]
theorem rwl_len (x : Int) (K V : Nat → Int) (n : Nat) : (rwl x K V n).length = n + 2 := by simp [rwl]
theorem txt_snocY (y : ByteArray) (M : List ByteArray) (q : ByteArray) : txt (y :: M ++ [q]) = txt (y :: M) ++ blk ++ q := by
  simp only [txt, List.map_append, List.map_cons, List.map_nil, List.cons_append, Lib.join_cons, Lib.joinTail, List.flatten_append]
  rw [ba_append, ba_append]
  simp
theorem txt_rwl (x : Int) (K V : Nat → Int) : ∀ n, txt (rwl x K V n) = rtx x K V n
  | 0 => by
    show txt [okB, dg x.toNat] = _
    rw [txt_two]; rfl
  | n + 1 => by
    rw [rwl_succ]
    show txt (okB :: (dg x.toNat :: (List.range n).map fun j => cwd (K j) (V j)) ++ [cwd (K n) (V n)]) = rtx x K V n ++ blk ++ cwd (K n) (V n)
    rw [txt_snocY, ← txt_rwl x K V n]; rfl
def NmW (x : Int) : Prop := x ≤ 9223372036854775807
/-- Its numbers are such as fit. -/
def RpW (t : Rp) : Prop := NmW t.cd ∧ NmW t.vl ∧ ∀ i, i < t.cn → NmW (t.cK i) ∧ NmW (t.cV i)
/-- Is one of the numbers below 0? -/
def bdF (t : Rp) : Nat → Bool
  | 0 => decide (t.cd < 0) || decide (t.vl < 0)
  | k + 1 => bdF t k || decide (t.cK k < 0) || decide (t.cV k < 0)
theorem bd_no {t : Rp} : ∀ n, bdF t n = false → 0 ≤ t.cd ∧ 0 ≤ t.vl ∧ ∀ i, i < n → 0 ≤ t.cK i ∧ 0 ≤ t.cV i
  | 0, h => by
    simp only [bdF, Bool.or_eq_false_iff, decide_eq_false_iff_not] at h
    exact ⟨by omega, by omega, fun i hi => by omega⟩
  | n + 1, h => by
    simp only [bdF, Bool.or_eq_false_iff, decide_eq_false_iff_not] at h
    obtain ⟨a, b, c⟩ := bd_no n h.1.1
    refine ⟨a, b, fun i hi => ?_⟩
    by_cases e : i = n
    · subst e; omega
    · exact c i (by omega)
theorem dw_size (x : Int) (h : NmW x) : (dg x.toNat).size ≤ 20 := dg_size _ (by unfold NmW at h; omega)
theorem cwd_size {k v : Int} (h : NmW k) (h' : NmW v) : (cwd k v).size ≤ 41 := by
  have h1 := dw_size k h
  have h2 := dw_size v h'
  have h3 : eqB.size = 1 := rfl
  simp only [cwd, ByteArray.size_append]
  omega
theorem rtx_size {x : Int} {K V : Nat → Int} (hx : NmW x) : ∀ n, (∀ i, i < n → NmW (K i) ∧ NmW (V i)) → (rtx x K V n).size ≤ 23 + n * 42
  | 0, _ => by
    have h1 := dw_size x hx
    have h2 : okB.size = 2 := rfl
    have h3 : blk.size = 1 := rfl
    simp only [rtx, ByteArray.size_append]
    omega
  | n + 1, h => by
    have h1 := rtx_size hx n (fun i hi => h i (by omega))
    have h2 := cwd_size (h n (Nat.lt_succ_self n)).1 (h n (Nat.lt_succ_self n)).2
    have h3 : blk.size = 1 := rfl
    simp only [rtx, ByteArray.size_append]
    omega
def ryC (t : Rp) : Int := if bdF t t.cn = true then 3 else 0
def ryT (t : Rp) : ByteArray := if bdF t t.cn = true then ⟨#[]⟩ else if t.cd = 0 then rtx t.vl t.cK t.cV t.cn else noB ++ dg t.cd.toNat
theorem ry_bad {t : Rp} (h : bdF t t.cn = true) : ryC t = 3 ∧ ryT t = ⟨#[]⟩ := ⟨if_pos h, if_pos h⟩
theorem ry_no {t : Rp} (h : bdF t t.cn = false) (h0 : ¬ t.cd = 0) : ryC t = 0 ∧ ryT t = noB ++ dg t.cd.toNat := by
  have : ¬ bdF t t.cn = true := by simp [h]
  exact ⟨if_neg this, by rw [ryT, if_neg this, if_neg h0]⟩
theorem ry_ok {t : Rp} (h : bdF t t.cn = false) (h0 : t.cd = 0) : ryC t = 0 ∧ ryT t = rtx t.vl t.cK t.cV t.cn := by
  have : ¬ bdF t t.cn = true := by simp [h]
  exact ⟨if_neg this, by rw [ryT, if_neg this, if_pos h0]⟩
def RyR (w : World) (t : Rp) (e : Ending) (w' : World) : Prop := e = .returned (.agg #[.int .i64 (ryC t), .string (ryT t)]) ∧ Below w.heap.size w w'
theorem nm_wf {z : Int} (h : (Lit.int .i64 z).wf = true) : NmW z := by
  simp only [Lit.wf, Bool.and_eq_true, decide_eq_true_eq] at h
  exact h.2
theorem openCellW {H : Type} {enc : TypeId × Value → H} {W : World} {fuel : Nat} {cs : List Value} {x : DataW H × List MemPlace}
    (h : DataW.trod enc Tryd.prog W 0 (fun _ => true) true fuel 22 cs = some x) :
    ∃ (a : Option Addr) (n cap : Nat) (K V : Nat → Int), cs = [.slice a n cap] ∧ n ≤ cap ∧ n ≤ 9223372036854775807 ∧ CellsAt W a n K V ∧ ∀ i, i < n → NmW (K i) ∧ NmW (V i) := by
  rcases open_slice Tryd.underlying22 h with ⟨rfl, _⟩ | ⟨a, l, c, m, nn, D, Pl, rfl, _, hl, hm, hmm, _, hx⟩
  · exact ⟨none, 0, 0, fun _ => 0, fun _ => 0, rfl, Nat.le_refl _, by omega, .inl rfl, fun i hi => by omega⟩
  · have hmc : m = c := by simpa using hmm
    unfold maxLen at hm
    rw [cellsCell] at hx
    have each : ∀ i, i < l → ∃ q : Int × Int, W.cell? (a.add (i * 2)) = some (.int .i64 q.1) ∧ W.cell? (a.add (i * 2 + 1)) = some (.int .i64 q.2) ∧ NmW q.1 ∧ NmW q.2 := fun i hi => by
      obtain ⟨cs', h1, h2⟩ := hx i (by omega)
      obtain ⟨_, hlen, hcell⟩ := World.cells?_some h1
      obtain ⟨xs, k, hk, hxy, _, hxl, hf⟩ := DataW.trod_struct Tryd.underlying47 h2
      match xs, hxl, cs', hlen with
      | [y0, y1], _, [v0, v1], _ =>
        have g0 := hf 0 _ rfl
        have g1 := hf 1 _ rfl
        simp [cellsI1] at g0 g1
        have e0 := hcell 0 (by omega)
        have e1 := hcell 1 (by omega)
        rw [add_add] at e0 e1
        obtain ⟨z0, f0, _, wf0⟩ := DataW.trod_int Tryd.underlying2 g0
        obtain ⟨z1, f1, _, wf1⟩ := DataW.trod_int Tryd.underlying2 g1
        simp at f0 f1
        subst f0 f1
        exact ⟨(z0, z1), by simpa using e0, by simpa using e1, nm_wf wf0, nm_wf wf1⟩
    obtain ⟨q, hq⟩ := choose_lt each
    refine ⟨some a, l, c, fun i => (q i).1, fun i => (q i).2, rfl, by omega, by omega, ?_, fun i hi => (hq i hi).2.2⟩
    by_cases hz0 : l = 0
    · exact .inl hz0
    · obtain ⟨b, off, spot⟩ := a
      have hc0 := (hq 0 (by omega)).1
      have hspot : spot = none := by simpa [Addr.add] using World.cell?_spot hc0
      subst hspot
      refine .inr ⟨b, off, rfl, Go.block_lt_of_cell hc0, fun i hi => ?_, fun i hi => ?_⟩
      · have k0 := (hq i hi).1
        rw [add_plain] at k0
        exact k0
      · have k1 := (hq i hi).2.1
        rw [add_plain] at k1
        rw [Nat.add_assoc]; exact k1
theorem openRpW {H : Type} {enc : TypeId × Value → H} {W : World} {r : Reach} {b0 : Nat} {v : Value} {d : DataW H} {p : List MemPlace}
    (hv : Value.okWide Tryd.prog W r b0 24 v) (h : DataW.Trod enc Tryd.prog W 0 (fun _ => true) true 24 v d p) :
    ∃ (t : Rp) (a0 : Option Addr) (c0 : Nat), v = .agg #[.int .i64 t.cd, .int .i64 t.vl, .slice a0 t.cn c0] ∧ BigRp t ∧ InRp W a0 t ∧ t.cn ≤ c0 ∧ RpW t := by
  obtain ⟨v0, v1, v2, y0, y1, y2, n, rfl, -, -, g0, g1, g2⟩ := open_agg3 Tryd.underlying24 (by kernel_rfl) cellsRp hv h
  obtain ⟨z0, f0, _, wf0⟩ := DataW.trod_int Tryd.underlying2 g0
  obtain ⟨z1, f1, _, wf1⟩ := DataW.trod_int Tryd.underlying2 g1
  obtain ⟨a0, n0, c0, K0, V0, f2, k0, l0, m0, q0⟩ := openCellW g2
  simp only [List.cons.injEq, and_true] at f0 f1 f2
  subst f0 f1 f2
  exact ⟨⟨z0, z1, n0, K0, V0⟩, a0, c0, rfl, ⟨l0, trivial⟩, ⟨m0, trivial⟩, k0, nm_wf wf0, nm_wf wf1, q0⟩
end Go.Proofs.YtfipdkhbehfohaaDoor
