/- Cells with one of a key: the model, and the walk of impl.withCell. -/
import Derived.Test.YtldnfiadafmomaaWo
namespace Go.Proofs.Ytldnfiadafmomaa
open Go.RowKit Go.Deep
set_option linter.unusedVariables false

/-- m cells from the i-th on. -/
def lst (K V : Nat → Int) (i m : Nat) : List (Int × Int) := (List.range m).map fun q => (K (i + q), V (i + q))
theorem lst_len (K V : Nat → Int) (i m : Nat) : (lst K V i m).length = m := by simp [lst]
theorem lst_get (K V : Nat → Int) (i m q : Nat) (h : q < m) : kOf (lst K V i m) q = K (i + q) ∧ vOf (lst K V i m) q = V (i + q) := by
  simp [kOf, vOf, lst, h]
/-- Where the key's cell goes, and where the rest begins. -/
def nx (K : Nat → Int) (key : Int) (n : Nat) : Nat := if has K key n = true then pl K key n + 1 else pl K key n
def wi (K V : Nat → Int) (key val : Int) (n : Nat) : List (Int × Int) := lst K V 0 (pl K key n) ++ [(key, val)] ++ lst K V (nx K key n) (n - nx K key n)
theorem nx_le (K : Nat → Int) (key : Int) (n : Nat) : nx K key n ≤ n := by
  unfold nx
  have := pl_le K key n
  by_cases h : has K key n = true
  · rw [if_pos h]; have := (has_iff.1 h).1; omega
  · rw [if_neg h]; omega
theorem wi_len (K V : Nat → Int) (key val : Int) (n : Nat) : (wi K V key val n).length ≤ n + 1 := by
  have h1 := pl_le K key n
  have h2 := nx_le K key n
  have h3 : pl K key n ≤ nx K key n := by unfold nx; split <;> omega
  simp only [wi, List.length_append, lst_len, List.length_cons, List.length_nil]; omega
theorem news_cells {w : World} {b off n : Nat} {K V : Nat → Int} (hk : ∀ i, i < n → w.cell? ⟨b, off + i * 2, none⟩ = some (.int .i64 (K i))) (hv : ∀ i, i < n → w.cell? ⟨b, off + i * 2 + 1, none⟩ = some (.int .i64 (V i)))
    (i m : Nat) (him : i + m ≤ n) (o : Nat) (ho : o = off + i * 2) : ∀ j u, (cl (lst K V i m))[j]? = some u → w.cell? ((⟨b, o, none⟩ : Addr).add j) = some u := by
  intro j u hj
  subst ho
  rw [WideShapes.add_plain]
  have hlt : j < m * 2 := by
    have := (List.getElem?_eq_some_iff.1 hj).1
    rw [cl_len, lst_len] at this; exact this
  have hq : j / 2 < m := by omega
  have hkey := cl_key (lst K V i m) (j / 2) (by rw [lst_len]; exact hq)
  have hg := lst_get K V i m (j / 2) hq
  rcases Nat.mod_two_eq_zero_or_one j with e | e
  · have e1 : j / 2 * 2 = j := by omega
    rw [e1, hg.1] at hkey
    rw [hkey.1] at hj
    have := hk (i + j / 2) (by omega)
    rw [show off + i * 2 + j = off + (i + j / 2) * 2 by omega, this]; exact hj
  · have e1 : j / 2 * 2 + 1 = j := by omega
    rw [e1, hg.2] at hkey
    rw [hkey.2] at hj
    have := hv (i + j / 2) (by omega)
    rw [show off + i * 2 + j = off + (i + j / 2) * 2 + 1 by omega, this]; exact hj
theorem cl_one : ∀ L, ∀ u ∈ cl L, u.oneCell' = true
  | [], u, h => by simp [cl] at h
  | c :: r, u, h => by
    simp only [cl, List.mem_cons] at h
    rcases h with rfl | rfl | h
    · rfl
    · rfl
    · exact cl_one r u h
theorem rows_at {w : World} {b off n : Nat} {K V : Nat → Int} (h : CellsAt w (some ⟨b, off, none⟩) n K V) :
    (∀ i, i < n → w.cell? ⟨b, off + i * 2, none⟩ = some (.int .i64 (K i))) ∧ (∀ i, i < n → w.cell? ⟨b, off + i * 2 + 1, none⟩ = some (.int .i64 (V i))) := by
  rcases h with rfl | ⟨b', off', e, _, hk, hv⟩
  · exact ⟨fun i hi => by omega, fun i hi => by omega⟩
  · simp only [Option.some.injEq, Addr.mk.injEq, and_true] at e
    obtain ⟨rfl, rfl⟩ := e
    exact ⟨hk, hv⟩
end Go.Proofs.Ytldnfiadafmomaa
