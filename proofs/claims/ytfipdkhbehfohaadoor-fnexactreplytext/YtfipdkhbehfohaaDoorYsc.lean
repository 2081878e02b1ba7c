/- Rows of strings; a line cut at a byte, its words. -/
import Derived.Test.YtfipdkhbehfohaaDoorYsa
namespace Go.Proofs.YtfipdkhbehfohaaDoor
open Go.RowKit Go.Deep
set_option linter.unusedVariables false
set_option maxRecDepth 20000

theorem info9 : (Tryd.prog.info? 9).map (fun i => (i.zero, i.size, i.bytes)) = some (some (.string ByteArray.empty), 1, 16) := by kernel_rfl
theorem info_partsY {P : Program} {t : TypeId} {z : Value} {s b : Nat} (h : (P.info? t).map (fun i => (i.zero, i.size, i.bytes)) = some (some z, s, b)) : ∃ i, P.info? t = some i ∧ i.zero = some z ∧ i.size = s ∧ i.bytes = b := by
  obtain ⟨i, hi, hzz⟩ := Option.map_eq_some_iff.1 h
  simp only [Prod.mk.injEq] at hzz
  exact ⟨i, hi, hzz.1, hzz.2.1, hzz.2.2⟩
def sg (L : List ByteArray) (i : Nat) : ByteArray := L.getD i ByteArray.empty
def svl (L : List ByteArray) : List Value := L.map Value.string
theorem svl_len (L : List ByteArray) : (svl L).length = L.length := by simp [svl]
theorem svl_app (L M : List ByteArray) : svl (L ++ M) = svl L ++ svl M := by simp [svl]
theorem one_str (x : ByteArray) : ∀ u ∈ [Value.string x], u.oneCell' = true := by intro u hu; simp at hu; subst hu; rfl
/-- The strings at 'a'. -/
def StrsAt (w : World) (a : Option Addr) (L : List ByteArray) : Prop :=
  L.length = 0 ∨ ∃ b off, a = some ⟨b, off, none⟩ ∧ b < w.heap.size ∧ ∀ i, i < L.length → w.cell? ⟨b, off + i, none⟩ = some (.string (sg L i))
theorem StrsAt.below {w w' : World} {a : Option Addr} {L : List ByteArray} (h : StrsAt w a L) (hb : Below w.heap.size w w') : StrsAt w' a L := by
  rcases h with h | ⟨b, off, ha, hl, hc⟩
  · exact .inl h
  · exact .inr ⟨b, off, ha, Nat.lt_of_lt_of_le hl hb.size, fun i hi => (hb.cell (p := ⟨b, off + i, none⟩) hl).trans (hc i hi)⟩
theorem strs_of_own {w : World} {base : Nat} {v : Value} {L : List ByteArray} (h : w.ownsRow base 9 1 v L.length (svl L)) : ∃ a cap, v = .slice a L.length cap ∧ L.length ≤ cap ∧ StrsAt w a L := by
  rcases h.2 with ⟨rfl, h0⟩ | ⟨g, cap, cur, rfl, hbg, hg, hnc, _⟩
  · exact ⟨none, 0, by rw [h0], by omega, .inl h0⟩
  · have hlt : g < w.heap.size := by
      obtain ⟨hlt, _⟩ := Array.getElem?_eq_some_iff.1 hg
      exact hlt
    refine ⟨_, cap, rfl, by omega, .inr ⟨g, 0, rfl, hlt, fun i hi => ?_⟩⟩
    rw [Nat.zero_add, h.cellAt i (by omega)]
    simp [svl, sg, hi]

/-- The pieces of s from i on (k bytes are left), the one under way from f on, cut at the byte c. -/
def pc (s : ByteArray) (c : Int) : Nat → Nat → Nat → List ByteArray
  | 0, f, i => [s.extract f i]
  | k + 1, f, i => if bt s i = c then s.extract f i :: pc s c k (i + 1) (i + 1) else pc s c k f (i + 1)
def pcs (s : ByteArray) (c : Int) (f i : Nat) : List ByteArray := pc s c (s.size - i) f i
theorem pc_len (s : ByteArray) (c : Int) : ∀ k f i, (pc s c k f i).length ≤ k + 1
  | 0, f, i => by simp [pc]
  | k + 1, f, i => by
    simp only [pc]
    split
    · have := pc_len s c k (i + 1) (i + 1); simp only [List.length_cons]; omega
    · have := pc_len s c k f (i + 1); omega
theorem pcs_end (s : ByteArray) (c : Int) (f : Nat) : pcs s c f s.size = [s.extract f s.size] := by simp [pcs, pc]
theorem pcs_cut {s : ByteArray} {c : Int} {f i : Nat} (hi : i < s.size) (h : bt s i = c) : pcs s c f i = s.extract f i :: pcs s c (i + 1) (i + 1) := by
  obtain ⟨k, hk⟩ : ∃ k, s.size - i = k + 1 := ⟨s.size - i - 1, by omega⟩
  have hk2 : s.size - (i + 1) = k := by omega
  simp only [pcs, hk, hk2, pc, if_pos h]
theorem pcs_on {s : ByteArray} {c : Int} {f i : Nat} (hi : i < s.size) (h : ¬ bt s i = c) : pcs s c f i = pcs s c f (i + 1) := by
  obtain ⟨k, hk⟩ : ∃ k, s.size - i = k + 1 := ⟨s.size - i - 1, by omega⟩
  have hk2 : s.size - (i + 1) = k := by omega
  simp only [pcs, hk, hk2, pc, if_neg h]
/-- Those that are not empty. -/
def fe (L : List ByteArray) : List ByteArray := L.filter fun x => decide (x.size ≠ 0)
theorem fe_len (L : List ByteArray) : (fe L).length ≤ L.length := List.length_filter_le _ _
/-- The words of a line. -/
def wds (s : ByteArray) : List ByteArray := fe (pcs s 32 0 0)
theorem wds_len (s : ByteArray) : (wds s).length ≤ s.size + 1 := by
  have h1 := fe_len (pcs s 32 0 0)
  have h2 := pc_len s 32 (s.size - 0) 0 0
  have h3 : (pcs s 32 0 0).length ≤ s.size + 1 := h2
  unfold wds
  omega
theorem ext_size (s : ByteArray) {f i : Nat} (hi : i ≤ s.size) : (s.extract f i).size = i - f := by
  rw [ByteArray.size_extract]
  omega
theorem fe_cut {s : ByteArray} {f i : Nat} (hi : i < s.size) (h : bt s i = 32) (hf : f < i) : fe (pcs s 32 f i) = s.extract f i :: fe (pcs s 32 i i) := by
  rw [pcs_cut hi h, pcs_cut (f := i) hi h]
  have h1 : decide ((s.extract f i).size ≠ 0) = true := by rw [ext_size s (by omega)]; simp; omega
  have h2 : decide ((s.extract i i).size ≠ 0) = false := by rw [ext_size s (by omega)]; simp
  simp only [fe, List.filter_cons, h1, h2, if_true, Bool.false_eq_true, if_false]
theorem fe_end {s : ByteArray} {f : Nat} (hf : f < s.size) : fe (pcs s 32 f s.size) = s.extract f s.size :: fe (pcs s 32 s.size s.size) := by
  rw [pcs_end, pcs_end]
  have h1 : decide ((s.extract f s.size).size ≠ 0) = true := by rw [ext_size s (by omega)]; simp; omega
  have h2 : decide ((s.extract s.size s.size).size ≠ 0) = false := by rw [ext_size s (by omega)]; simp
  simp only [fe, List.filter_cons, h1, h2, if_true, Bool.false_eq_true, if_false, List.filter_nil]
theorem fe_none {s : ByteArray} : fe (pcs s 32 s.size s.size) = [] := by
  rw [pcs_end]
  have h2 : decide ((s.extract s.size s.size).size ≠ 0) = false := by rw [ext_size s (by omega)]; simp
  simp only [fe, List.filter_cons, h2, Bool.false_eq_true, if_false, List.filter_nil]
theorem fe_skip {s : ByteArray} {i : Nat} (hi : i < s.size) (h : bt s i = 32) : fe (pcs s 32 i i) = fe (pcs s 32 (i + 1) (i + 1)) := by
  rw [pcs_cut hi h]
  have h2 : decide ((s.extract i i).size ≠ 0) = false := by rw [ext_size s (by omega)]; simp
  simp only [fe, List.filter_cons, h2, Bool.false_eq_true, if_false]
theorem fe_on {s : ByteArray} {f i : Nat} (hi : i < s.size) (h : ¬ bt s i = 32) : fe (pcs s 32 f i) = fe (pcs s 32 f (i + 1)) := by rw [pcs_on hi h]
end Go.Proofs.YtfipdkhbehfohaaDoor
