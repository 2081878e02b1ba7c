/- Cells without that of a key: the model, and the walks of spec.l1Without and impl.withoutCell. -/
import Derived.Test.YtnhkjdcbaphfcaaFind
namespace Go.Proofs.Ytnhkjdcbaphfcaa
open Go.RowKit Go.Deep
set_option linter.unusedVariables false

/-- A list of cells, place by place. -/
def cl : List (Int × Int) → List Value
  | [] => []
  | c :: r => .int .i64 c.1 :: .int .i64 c.2 :: cl r
theorem cl_len : ∀ L, (cl L).length = L.length * 2
  | [] => rfl
  | c :: r => by simp only [cl, List.length_cons, cl_len r]; omega
theorem cl_app : ∀ L M, cl (L ++ M) = cl L ++ cl M
  | [], M => rfl
  | c :: r, M => by simp only [List.cons_append, cl, cl_app r M]
def kOf (L : List (Int × Int)) (i : Nat) : Int := (L.getD i (0, 0)).1
def vOf (L : List (Int × Int)) (i : Nat) : Int := (L.getD i (0, 0)).2
theorem cl_key : ∀ (L : List (Int × Int)) (i : Nat), i < L.length → (cl L)[i * 2]? = some (.int .i64 (kOf L i)) ∧ (cl L)[i * 2 + 1]? = some (.int .i64 (vOf L i))
  | [], i, h => by simp at h
  | c :: r, 0, _ => by simp [cl, kOf, vOf]
  | c :: r, i + 1, h => by
    have ih := cl_key r i (by simpa using h)
    have e1 : (i + 1) * 2 = i * 2 + 1 + 1 := by omega
    rw [e1]
    simp only [cl, List.getElem?_cons_succ]
    exact ih
/-- What a slice owns that was appended to. -/
theorem own_of_row {w : World} {base : Nat} {v : Value} {L : List (Int × Int)} (h : w.ownsRow base 45 2 v L.length (cl L)) : ∃ a cap, v = .slice a L.length cap ∧ Own w base w.heap.size a L.length (kOf L) (vOf L) := by
  rcases h.2 with ⟨rfl, h0⟩ | ⟨g, cap, cur, rfl, hbg, hg, hnc, hcm, hcs, htake⟩
  · exact ⟨none, 0, by rw [h0], Nat.le_refl _, .inl h0⟩
  · have hlt : g < w.heap.size := by
      obtain ⟨hlt, _⟩ := Array.getElem?_eq_some_iff.1 hg
      exact hlt
    refine ⟨some ⟨g, 0, none⟩, cap, rfl, Nat.le_refl _, .inr ⟨g, 0, rfl, hbg, hlt, fun i hi => ?_, fun i hi => ?_, fun i hi => ?_, fun i hi => ?_⟩⟩
    · have := h.cellAt (i * 2) (by omega)
      rw [(cl_key L i hi).1] at this
      simpa using this
    · have := h.cellAt (i * 2 + 1) (by omega)
      rw [(cl_key L i hi).2] at this
      simpa using this
    · exact h.frozenAt _
    · exact h.frozenAt _

def wo (K V : Nat → Int) (key : Int) : Nat → List (Int × Int)
  | 0 => []
  | k + 1 => if K k = key then wo K V key k else wo K V key k ++ [(K k, V k)]
theorem wo_len (K V : Nat → Int) (key : Int) : ∀ k, (wo K V key k).length ≤ k
  | 0 => by simp [wo]
  | k + 1 => by have := wo_len K V key k; simp only [wo]; split <;> simp <;> omega
/-- One cell appended. -/
theorem app_one {w wr w1 : World} {B : Nat} {v v' : Value} {L : List (Int × Int)} {k x : Int} {c : Array Value} {t : TypeId} (hb : Below B w wr) (hB : B ≤ wr.heap.size) (hown : wr.ownsRow B 45 2 v L.length (cl L))
    (h1 : w1.ownsRow B 45 2 v' (L.length + 1) (cl L ++ [.int .i64 k, .int .i64 x])) (hg : (wr.alloc (.cells c t)).grownBy w1 v.ownBlock) :
    w1.ownsRow B 45 2 v' (L ++ [(k, x)]).length (cl (L ++ [(k, x)])) ∧ Below B w w1 := by
  refine ⟨?_, (hb.alloc hB _).grown hg (by simp; omega) fun q hq => (hown.lt q hq).1⟩
  rw [cl_app]
  simpa [cl] using h1

theorem cell_two_new2 (w : World) (o : Obj) (a b : Value) (t : TypeId) : ∀ j u, [a, b][j]? = some u → ((w.alloc o).alloc (.cells #[a, b] t)).cell? ((⟨w.heap.size + 1, 0, none⟩ : Addr).add j) = some u := by
  have h := cell_two_new (w.alloc o) a b t
  simpa using h
set_option maxHeartbeats 1000000 in
theorem specWithout_some (n : Nat) (K V : Nat → Int) (key : Int) (b off cap : Nat) (w : World) (hn : n ≤ 1000) (hbl : b < w.heap.size)
    (hk : ∀ i, i < n → w.cell? ⟨b, off + i * 2, none⟩ = some (.int .i64 (K i))) (hv : ∀ i, i < n → w.cell? ⟨b, off + i * 2 + 1, none⟩ = some (.int .i64 (V i))) :
    Calls Try.prog 62 #[.slice (some ⟨b, off, none⟩) n cap, .int .i64 key] w fun e w' =>
      ∃ v, e = .returned v ∧ Below w.heap.size w w' ∧ w'.ownsRow w.heap.size 45 2 v (wo K V key n).length (cl (wo K V key n)) := by
  obtain ⟨i0, hi, hz0, hz1, hz2⟩ := info_parts info99
  have HI : Hid (Try.prog.info? 45 = some i0 ∧ i0.zero = some (.agg #[.int .i64 0, .int .i64 0]) ∧ i0.size = 2 ∧ i0.bytes = 16) := ⟨hi, hz0, hz1, hz2⟩
  clear hi hz0 hz1 hz2
  go_enter Try.func62, Try.ntmps62
  go_wp2
  go_loopw [5, 6] (fun v i wr => ∃ k : Nat, k ≤ n ∧ i = .int .i64 k ∧ Below w.heap.size w wr ∧ wr.ownsRow w.heap.size 45 2 v (wo K V key k).length (cl (wo K V key k))) (fun _ i _ => n - (intOf i).toNat)
  case atStart => exact ⟨0, Nat.zero_le _, rfl, below_new _ _, World.ownsRow_lit w #[] 0 (Nat.le_refl _) (Nat.zero_le _) rfl⟩
  case round =>
    obtain ⟨k, hk0, rfl, hb, hown⟩ := hrel
    by_cases hlt : k < n
    · have h1 : wr.cell? ⟨b, off + k * 2, none⟩ = some (.int .i64 (K k)) := (hb.cell (p := ⟨b, _, none⟩) hbl).trans (hk k hlt)
      have h2 : wr.cell? ⟨b, off + k * 2 + 1, none⟩ = some (.int .i64 (V k)) := (hb.cell (p := ⟨b, _, none⟩) hbl).trans (hv k hlt)
      have hlt' : (k : Int) < (n : Int) := by omega
      have HB : Hid (Below w.heap.size w wr) := hb
      have HS : Hid (w.heap.size ≤ wr.heap.size) := hb.size
      have HO : Hid (wr.ownsRow w.heap.size 45 2 u5 (wo K V key k).length (cl (wo K V key k))) := hown
      have hl := wo_len K V key k
      clear hb hown hk hv
      by_cases hc : K k = key
      · have hd : (K k != key) = false := by simpa using hc
        have HW : Hid (wo K V key (k + 1) = wo K V key k) := by show wo K V key (k + 1) = wo K V key k; rw [wo, if_pos hc]
        clear hc
        go_wp2
        go_roundw
        case rel => exact ⟨k + 1, hlt, by go_num, HB.out, by rw [HW.out]; exact HO.out⟩
        case measure => simp [intOf]; omega
      · have hd : (K k != key) = true := by simpa using hc
        have HW : Hid (wo K V key (k + 1) = wo K V key k ++ [(K k, V k)]) := by show wo K V key (k + 1) = wo K V key k ++ [(K k, V k)]; rw [wo, if_neg hc]
        clear hc
        go_wp2_with (at_builtin; refine wpList_append_own _ rfl _ _ 25 rfl w.heap.size 45 i0 (.agg #[.int .i64 0, .int .i64 0]) 2 16 Try.underlying25 HI.out.1 HI.out.2.1 HI.out.2.2.1 HI.out.2.2.2 rfl (by decide) _ _ _ rfl (HO.out.alloc _) ⟨wr.heap.size, 0, none⟩ 1 1 [.int .i64 (K k), .int .i64 (V k)] rfl rfl (cell_two_new _ _ _ _) ?c2 ?c3 ?c4 ?c5 ?_)
        case c2 => intro x hx; simp at hx; rcases hx with rfl | rfl <;> rfl
        case c3 => unfold maxLen; omega
        case c4 => omega
        case c5 => have hq := HS.out; simp; omega
        intro v' w1 ho1 hg1 _
        have HR : Hid _ := app_one HB.out HS.out HO.out ho1 hg1
        clear ho1 hg1
        go_wp2
        go_roundw
        case rel => exact ⟨k + 1, hlt, by go_num, HR.out.2, by rw [HW.out]; exact HR.out.1⟩
        case measure => simp [intOf]; omega
    · have hkn : k = n := by omega
      subst hkn
      have HO : Hid (wr.ownsRow w.heap.size 45 2 u5 (wo K V key k).length (cl (wo K V key k))) := hown
      clear hk hv hown
      go_wp2
      go_ret
      exact ⟨_, rfl, hb, HO.out⟩
theorem specWithout_zero (K V : Nat → Int) (key : Int) (a : Option Addr) (cap : Nat) (w : World) :
    Calls Try.prog 62 #[.slice a 0 cap, .int .i64 key] w fun e w' =>
      ∃ v, e = .returned v ∧ Below w.heap.size w w' ∧ w'.ownsRow w.heap.size 45 2 v (wo K V key 0).length (cl (wo K V key 0)) := by
  go_enter Try.func62, Try.ntmps62
  go_wp2
  go_loop [5, 6] (fun v i => v = .slice (some ⟨w.heap.size, 0, none⟩) 0 0 ∧ i = .int .i64 0) (fun _ _  => 0)
  case atStart => exact ⟨rfl, rfl⟩
  case round =>
    obtain ⟨rfl, rfl⟩ := hrel
    go_wp2
    go_ret
    exact ⟨_, rfl, below_new _ _, World.ownsRow_lit w #[] 0 (Nat.le_refl _) (Nat.zero_le _) rfl⟩
theorem specWithout_any (n : Nat) (K V : Nat → Int) (key : Int) (a : Option Addr) (cap : Nat) (w : World) (hn : n ≤ 1000) (h : CellsAt w a n K V) :
    Calls Try.prog 62 #[.slice a n cap, .int .i64 key] w fun e w' =>
      ∃ a' cap', e = .returned (.slice a' (wo K V key n).length cap') ∧ Below w.heap.size w w' ∧ Own w' w.heap.size w'.heap.size a' (wo K V key n).length (kOf (wo K V key n)) (vOf (wo K V key n)) := by
  have fin : ∀ (e : Ending) (w' : World), (∃ v, e = .returned v ∧ Below w.heap.size w w' ∧ w'.ownsRow w.heap.size 45 2 v (wo K V key n).length (cl (wo K V key n))) →
      ∃ a' cap', e = .returned (.slice a' (wo K V key n).length cap') ∧ Below w.heap.size w w' ∧ Own w' w.heap.size w'.heap.size a' (wo K V key n).length (kOf (wo K V key n)) (vOf (wo K V key n)) := by
    rintro e w' ⟨v, rfl, hb, ho⟩
    obtain ⟨a', cap', rfl, ho2⟩ := own_of_row ho
    exact ⟨a', cap', rfl, hb, ho2⟩
  rcases h with rfl | ⟨b, off, rfl, hbl, hk, hv⟩
  · exact (specWithout_zero K V key a cap w).mono fin
  · exact (specWithout_some n K V key b off cap w hn hbl hk hv).mono fin
end Go.Proofs.Ytnhkjdcbaphfcaa
