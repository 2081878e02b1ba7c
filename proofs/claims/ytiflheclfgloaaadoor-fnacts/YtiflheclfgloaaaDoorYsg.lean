/- Which act the words of a line tell: as a function. -/
import Derived.Test.YtiflheclfgloaaaDoorYsc
namespace Go.Proofs.YtiflheclfgloaaaDoor
open Go.RowKit Go.Deep
set_option linter.unusedVariables false
set_option maxRecDepth 20000

def fwL : List ByteArray := [⟨#[]⟩, ⟨#[98, 101, 103, 105, 110]⟩, ⟨#[103, 101, 116]⟩, ⟨#[115, 99, 97, 110]⟩, ⟨#[112, 117, 116]⟩, ⟨#[100, 114, 111, 112]⟩, ⟨#[99, 111, 109, 109, 105, 116]⟩, ⟨#[97, 98, 111, 114, 116]⟩]
def fw (k : Nat) : ByteArray := fwL.getD k ByteArray.empty
/-- How many numbers an act of a kind writes. -/
def fc (k : Nat) : Nat := [0, 0, 2, 1, 3, 2, 1, 1].getD k 0
/-- Does the form of the kind k fit? -/
def kfit (L : List ByteArray) (k : Nat) : Bool := decide (L.length = 1 + fc k) && decide (sg L 0 = fw k)
def kq (L : List ByteArray) : Nat → Nat → Nat
  | 0, _ => 0
  | n + 1, k => if kfit L k = true then k else kq L n (k + 1)
def kindP (L : List ByteArray) : Nat := kq L 7 1
/-- The kind by its name alone, the last of the first m. -/
def nmq (x : ByteArray) : Nat → Nat
  | 0 => 0
  | m + 1 => if fw (m + 1) = x then m + 1 else nmq x m
theorem nmq_le (x : ByteArray) : ∀ m, nmq x m ≤ m
  | 0 => Nat.le_refl _
  | m + 1 => by
    simp only [nmq]
    split
    · omega
    · have := nmq_le x m; omega
theorem fw_inj : ∀ i, i < 8 → ∀ j, j < 8 → fw i = fw j → i = j := by decide
theorem kq_hit (L : List ByteArray) (c : Nat) (hc : kfit L c = true) : ∀ n k, k ≤ c → c < k + n → (∀ j, k ≤ j → j < c → kfit L j = false) → kq L n k = c
  | 0, k, h1, h2, _ => by omega
  | n + 1, k, h1, h2, h3 => by
    simp only [kq]
    by_cases e : k = c
    · subst e; rw [if_pos hc]
    · rw [if_neg (by rw [h3 k (Nat.le_refl _) (by omega)]; simp)]
      exact kq_hit L c hc n (k + 1) (by omega) (by omega) (fun j a b => h3 j (by omega) b)
theorem kq_miss (L : List ByteArray) : ∀ n k, (∀ j, k ≤ j → j < k + n → kfit L j = false) → kq L n k = 0
  | 0, k, _ => rfl
  | n + 1, k, h => by
    simp only [kq]
    rw [if_neg (by rw [h k (Nat.le_refl _) (by omega)]; simp)]
    exact kq_miss L n (k + 1) (fun j a b => h j (by omega) (by omega))
theorem nmq_hit (x : ByteArray) (c : Nat) (hc : fw c = x) : ∀ m, 1 ≤ c → c ≤ m → (∀ j, c < j → j ≤ m → fw j ≠ x) → nmq x m = c
  | 0, h1, h2, _ => by omega
  | m + 1, h1, h2, h3 => by
    simp only [nmq]
    by_cases e : m + 1 = c
    · rw [e, if_pos hc]
    · rw [if_neg (h3 (m + 1) (by omega) (Nat.le_refl _))]
      exact nmq_hit x c hc m h1 (by omega) (fun j a b => h3 j a (by omega))
theorem nmq_miss (x : ByteArray) : ∀ m, (∀ j, 1 ≤ j → j ≤ m → fw j ≠ x) → nmq x m = 0
  | 0, _ => rfl
  | m + 1, h => by
    simp only [nmq]
    rw [if_neg (h (m + 1) (by omega) (Nat.le_refl _))]
    exact nmq_miss x m (fun j a b => h j a (by omega))
theorem kfit_name {L : List ByteArray} {k : Nat} (h : sg L 0 ≠ fw k) : kfit L k = false := by simp [kfit, h]
/-- The model's kind and the program's. -/
theorem kind_name (L : List ByteArray) : kindP L = if nmq (sg L 0) 7 ≠ 0 ∧ L.length = fc (nmq (sg L 0) 7) + 1 then nmq (sg L 0) 7 else 0 := by
  by_cases ex : ∃ c, 1 ≤ c ∧ c ≤ 7 ∧ fw c = sg L 0
  · obtain ⟨c, h1, h7, hc⟩ := ex
    have hn : nmq (sg L 0) 7 = c := nmq_hit _ c hc 7 h1 h7 fun j a b e => by have := fw_inj j (by omega) c (by omega) (e.trans hc.symm); omega
    have hne : ∀ j, 1 ≤ j → j < 8 → j ≠ c → kfit L j = false := fun j a b hj => kfit_name fun e => hj (fw_inj j b c (by omega) (e.symm.trans hc.symm))
    rw [hn]
    by_cases hl : L.length = fc c + 1
    · rw [if_pos ⟨by omega, hl⟩]
      exact kq_hit L c (by simp only [kfit, Bool.and_eq_true, decide_eq_true_eq]; exact ⟨by omega, hc.symm⟩) 7 1 h1 (by omega) (fun j a b => hne j a (by omega) (by omega))
    · rw [if_neg (fun h => hl h.2)]
      refine kq_miss L 7 1 fun j a b => ?_
      by_cases e : j = c
      · subst e
        have : decide (L.length = 1 + fc j) = false := decide_eq_false (by omega)
        simp only [kfit, this, Bool.false_and]
      · exact hne j a (by omega) e
  · have hno : ∀ j, 1 ≤ j → j ≤ 7 → fw j ≠ sg L 0 := fun j a b e => ex ⟨j, a, b, e⟩
    rw [nmq_miss _ 7 hno, if_neg (fun h => h.1 rfl)]
    exact kq_miss L 7 1 fun j a b => kfit_name fun e => hno j a (by omega) e.symm
theorem kq_le (L : List ByteArray) : ∀ n k, kq L n k ≤ k + n
  | 0, k => by simp [kq]
  | n + 1, k => by
    simp only [kq]
    split
    · omega
    · have := kq_le L n (k + 1); omega
theorem kindP_le (L : List ByteArray) : kindP L ≤ 7 := by
  rw [kind_name]
  have := nmq_le (sg L 0) 7
  split <;> omega
theorem kindP_len {L : List ByteArray} (h : kindP L ≠ 0) : L.length = fc (kindP L) + 1 ∧ sg L 0 = fw (kindP L) ∧ 1 ≤ kindP L := by
  have e := kind_name L
  have hn : nmq (sg L 0) 7 = kindP L ∧ L.length = fc (nmq (sg L 0) 7) + 1 := by
    by_cases c : nmq (sg L 0) 7 ≠ 0 ∧ L.length = fc (nmq (sg L 0) 7) + 1
    · rw [if_pos c] at e; exact ⟨e.symm, c.2⟩
    · rw [if_neg c] at e; exact absurd e h
  refine ⟨by rw [hn.2, hn.1], ?_, by omega⟩
  by_cases ex : ∃ c, 1 ≤ c ∧ c ≤ 7 ∧ fw c = sg L 0
  · obtain ⟨c, h1, h7, hc⟩ := ex
    have hq : nmq (sg L 0) 7 = c := nmq_hit _ c hc 7 h1 h7 fun j a b e => by have := fw_inj j (by omega) c (by omega) (e.trans hc.symm); omega
    rw [← hn.1, hq]
    exact hc.symm
  · have hno : ∀ j, 1 ≤ j → j ≤ 7 → fw j ≠ sg L 0 := fun j a b e => ex ⟨j, a, b, e⟩
    rw [nmq_miss _ 7 hno] at hn
    exact absurd hn.1.symm h
theorem fc_le (k : Nat) (h : k ≤ 7) : fc k ≤ 3 := by
  have : ∀ k, k < 8 → fc k ≤ 3 := by decide
  exact this k (by omega)
/-- Are the first m words behind the first one numbers? -/
def nums (L : List ByteArray) : Nat → Bool
  | 0 => true
  | m + 1 => nums L m && numB (sg L (m + 1))
def okA (L : List ByteArray) : Bool := decide (kindP L ≠ 0) && nums L (L.length - 1)
/-- The j-th number (from 1 on). -/
def nA (L : List ByteArray) (j : Nat) : Int := if j < L.length then numV (sg L j) else 0
/-- A byte 10 is in no word of a form and no digit. -/
theorem bt_ext (s : ByteArray) {f e q : Nat} (he : e ≤ s.size) (hq : f + q < e) : bt (s.extract f e) q = bt s (f + q) := by
  have h1 : q < (s.extract f e).size := by rw [ByteArray.size_extract]; omega
  rw [← bt_at _ q h1, ← bt_at s (f + q) (by omega)]
  rw [ByteArray.getElem_extract]
theorem nl_piece (s : ByteArray) : ∀ k f i, i + k = s.size → f ≤ i → ∀ p, f ≤ p → p < s.size → bt s p = 10 → ∃ x ∈ pc s 32 k f i, ∃ q, q < x.size ∧ bt x q = 10
  | 0, f, i, hi, hf, p, h1, h2, h3 => by
    refine ⟨s.extract f i, by simp [pc], p - f, ?_, ?_⟩
    · rw [ByteArray.size_extract]; omega
    · rw [bt_ext s (by omega) (by omega)]
      rw [show f + (p - f) = p by omega, h3]
  | k + 1, f, i, hi, hf, p, h1, h2, h3 => by
    by_cases hb : bt s i = 32
    · simp only [pc, if_pos hb]
      by_cases hp : p < i
      · refine ⟨s.extract f i, List.mem_cons_self, p - f, ?_, ?_⟩
        · rw [ByteArray.size_extract]; omega
        · rw [bt_ext s (by omega) (by omega)]
          rw [show f + (p - f) = p by omega, h3]
      · have hpi : p ≠ i := fun e => by rw [e, hb] at h3; exact absurd h3 (by decide)
        obtain ⟨x, hx, hq⟩ := nl_piece s k (i + 1) (i + 1) (by omega) (Nat.le_refl _) p (by omega) h2 h3
        exact ⟨x, List.mem_cons_of_mem _ hx, hq⟩
    · simp only [pc, if_neg hb]
      exact nl_piece s k f (i + 1) (by omega) (by omega) p h1 h2 h3
theorem fw_no10 : ∀ k, k < 8 → ∀ q, q < 6 → bt (fw k) q ≠ 10 := by decide
theorem fw_size : ∀ k, k < 8 → (fw k).size ≤ 6 := by decide
theorem nums_at {L : List ByteArray} : ∀ {m j : Nat}, nums L m = true → 1 ≤ j → j ≤ m → numB (sg L j) = true
  | 0, j, _, h1, h2 => by omega
  | m + 1, j, h, h1, h2 => by
    simp only [nums, Bool.and_eq_true] at h
    by_cases e : j = m + 1
    · rw [e]; exact h.2
    · exact nums_at h.1 h1 (by omega)
theorem nums_not {L : List ByteArray} {m j : Nat} (h1 : 1 ≤ j) (h2 : j ≤ m) (h : numB (sg L j) = false) : nums L m = false := by
  cases e : nums L m with
  | false => rfl
  | true => rw [nums_at e h1 h2] at h; exact absurd h (by decide)
theorem okA_nl {s : ByteArray} {p : Nat} (hp : p < s.size) (h : bt s p = 10) : okA (wds s) = false := by
  obtain ⟨x, hx, q, hq, hb⟩ := nl_piece s (s.size - 0) 0 0 (by omega) (Nat.le_refl _) p (Nat.zero_le _) hp h
  have hx2 : x ∈ wds s := List.mem_filter.2 ⟨hx, decide_eq_true (by omega)⟩
  obtain ⟨j, hj, hjx⟩ := List.getElem_of_mem hx2
  have hsg : sg (wds s) j = x := by rw [← hjx]; simp only [sg, List.getD, List.getElem?_eq_getElem hj, Option.getD_some]
  cases e : okA (wds s) with
  | false => rfl
  | true =>
    simp only [okA, Bool.and_eq_true, decide_eq_true_eq] at e
    obtain ⟨hk, hn⟩ := e
    by_cases h0 : j = 0
    · subst h0
      have h1 := (kindP_len hk).2.1
      rw [hsg] at h1
      have h7 := kindP_le (wds s)
      have h6 := fw_size (kindP (wds s)) (by omega)
      rw [h1] at hb hq
      exact absurd hb (fw_no10 _ (by omega) q (by omega))
    · have h1 := nums_at hn (j := j) (by omega) (by omega)
      rw [hsg] at h1
      simp only [numB, Bool.and_eq_true, decide_eq_true_eq] at h1
      have h2 := dok_le h1.2 (show q + 1 ≤ x.size by omega)
      simp only [dok, Bool.and_eq_true, decide_eq_true_eq] at h2
      omega
end Go.Proofs.YtiflheclfgloaaaDoor
