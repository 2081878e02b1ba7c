/- FnCells: what is set, what is dropped, as facts. -/
import Derived.Test.YtnhkjdcbaphfcaaStc
import Derived.Test.YtnhkjdcbaphfcaaCof
import Derived.Test.YtnhkjdcbaphfcaaCgd
namespace Go.Proofs.Ytnhkjdcbaphfcaa
open Go.RowKit Go.Deep
set_option linter.unusedVariables false
set_option linter.unusedSimpArgs false
set_option maxRecDepth 20000

theorem sC_zero {idn lsn : Int} {n : Nat} {K V : Nat → Int} {key val l2 : Int} (h : sC idn lsn n K V key val l2 = 0) : GoodP idn lsn n K V ∧ inB key 0 31 = true ∧ inB val 0 9999 = true ∧ inB l2 0 1000000 = true ∧ ¬ (n = 12 ∧ has K key n = false) := by
  unfold sC at h
  by_cases h0 : pf idn lsn n K V = 0
  · rw [if_pos h0] at h
    by_cases h1 : inB key 0 31 = false ∨ inB val 0 9999 = false ∨ inB l2 0 1000000 = false
    · rw [if_pos h1] at h; omega
    · rw [if_neg h1] at h
      by_cases h2 : n = 12 ∧ has K key n = false
      · rw [if_pos h2] at h; omega
      · refine ⟨good_of h0, ?_, ?_, ?_, h2⟩
        · cases e : inB key 0 31
          · exact absurd (.inl e) h1
          · rfl
        · cases e : inB val 0 9999
          · exact absurd (.inr (.inl e)) h1
          · rfl
        · cases e : inB l2 0 1000000
          · exact absurd (.inr (.inr e)) h1
          · rfl
  · rw [if_neg h0] at h; exact absurd h h0
/-- A cell that is there is told. -/
theorem coV_at {idn lsn : Int} {n : Nat} {K V : Nat → Int} {i : Nat} (h0 : pf idn lsn n K V = 0) (hr : Rising K n) (hi : i < n) : coV idn lsn n K V (K i) = V i := by
  obtain ⟨h1, h2⟩ := has_at hr hi rfl
  unfold coV
  rw [if_pos h0, if_pos h1, h2]
theorem fc_facts {idn lsn : Int} {n : Nat} {K V : Nat → Int} {key val l2 : Int} {L M : List (Int × Int)} (h : sC idn lsn n K V key val l2 = 0) (hL : L = wi K V key val n) (hM : M = wo (kOf L) (vOf L) key L.length) :
    pf idn l2 L.length (kOf L) (vOf L) = 0 ∧ coV idn l2 L.length (kOf L) (vOf L) key = val ∧ dC idn l2 L.length (kOf L) (vOf L) key l2 = 0 ∧ coC idn l2 M.length (kOf M) (vOf M) key = 4 ∧
    (∀ i, i < n → K i ≠ key → coV idn l2 L.length (kOf L) (vOf L) (K i) = V i ∧ coV idn l2 M.length (kOf M) (vOf M) (K i) = V i) ∧ M.length + 1 = L.length ∧ L.length ≤ 12 := by
  obtain ⟨g, hk, hv, hl, h12⟩ := sC_zero h
  have gc : GoodC n K V := ⟨g.gkey, g.gval, g.grise⟩
  have gL : GoodC L.length (kOf L) (vOf L) := by rw [hL]; exact wi_good gc (inB_iff.1 hk) (inB_iff.1 hv)
  have hlen : L.length ≤ 12 := by
    have h1 := pl_le K key n
    have h2 : L.length = pl K key n + 1 + (n - nx K key n) := by rw [hL]; simp [wi, lst_len]; omega
    have h3 := g.gn
    have h4 : nx K key n = if has K key n = true then pl K key n + 1 else pl K key n := rfl
    by_cases e : has K key n = true
    · rw [if_pos e] at h4
      have := (has_iff.1 e).1
      omega
    · rw [if_neg e] at h4
      have : n ≠ 12 := fun q => h12 ⟨q, by simpa using e⟩
      omega
  have p0 : pf idn l2 L.length (kOf L) (vOf L) = 0 := pf_good g.gid hl hlen gL
  have hself : kOf L (pl K key n) = key ∧ vOf L (pl K key n) = val := by rw [hL]; exact wi_self K V key val n
  have hpl : pl K key n < L.length := by rw [hL]; exact wi_pl_lt K V key val n
  have hhas := has_at (key := key) gL.rise hpl hself.1
  have gM : GoodC M.length (kOf M) (vOf M) := by rw [hM]; exact wo_good gL
  have hone : M.length + 1 = L.length := by rw [hM]; exact wo_one gL.rise hpl hself.1
  have q0 : pf idn l2 M.length (kOf M) (vOf M) = 0 := pf_good g.gid hl (by omega) gM
  have hno : has (kOf M) key M.length = false := has_not fun i hi => by
    have := wo_get (kOf L) (vOf L) key L.length i (by rw [← hM]; exact hi)
    obtain ⟨j, _, h2, h3, _⟩ := this
    rw [hM, h3]; exact h2
  refine ⟨p0, ?_, ?_, ?_, fun i hi hne => ?_, hone, hlen⟩
  · have := coV_at (idn := idn) (lsn := l2) p0 gL.rise hpl
    rw [hself.1, hself.2] at this
    exact this
  · unfold dC
    rw [if_pos p0, if_neg (by simp [hk, hl]), if_pos hhas.1]
  · unfold coC
    rw [if_pos q0, if_neg (by simp [hno])]
  · obtain ⟨j, h1, h2, h3⟩ := wi_keeps (V := V) (val := val) g.grise hi hne
    rw [← hL] at h1 h2 h3
    obtain ⟨j2, h4, h5, h6⟩ := wo_has (K := kOf L) (V := vOf L) (key := key) h1 (by rw [h2]; exact hne)
    rw [← hM] at h4 h5 h6
    refine ⟨?_, ?_⟩
    · have := coV_at (idn := idn) (lsn := l2) p0 gL.rise h1
      rw [h2, h3] at this
      exact this
    · have := coV_at (idn := idn) (lsn := l2) q0 gM.rise h4
      rw [h5, h6, h2, h3] at this
      exact this
end Go.Proofs.Ytnhkjdcbaphfcaa
