/- An act that is told by a line is read back from it: as functions. -/
import Derived.Test.YtiflheclfgloaaaDoorYsi
import Derived.Test.YtiflheclfgloaaaDoorYtb
namespace Go.Proofs.YtiflheclfgloaaaDoor
open Go.RowKit Go.Deep
set_option linter.unusedVariables false
set_option maxRecDepth 20000

/-- No blank among the bytes. -/
def noB (l : List UInt8) : Prop := ∀ j, j < l.length → ((l.getD j 0).toNat : Int) ≠ 32
theorem bt_mk (l : List UInt8) (i : Nat) : bt ⟨l.toArray⟩ i = ((l.getD i 0).toNat : Int) := by simp [bt]
theorem size_mk (l : List UInt8) : (⟨l.toArray⟩ : ByteArray).size = l.length := by show l.toArray.size = _; simp
theorem ext_mid (A x R : List UInt8) : (⟨(A ++ (x ++ R)).toArray⟩ : ByteArray).extract A.length (A.length + x.length) = ⟨x.toArray⟩ := by
  rw [ByteArray.extract_mk]
  congr 1
  apply Array.ext'
  simp
theorem getD_mid (A x R : List UInt8) (j : Nat) (hj : j < x.length) : (A ++ (x ++ R)).getD (A.length + j) 0 = x.getD j 0 := by
  simp only [List.getD]
  rw [List.getElem?_append_right (by omega), show A.length + j - A.length = j by omega, List.getElem?_append_left hj]
theorem fe_run (A x R : List UInt8) (hx : noB x) : ∀ j, j ≤ x.length → fe (pcs ⟨(A ++ (x ++ R)).toArray⟩ 32 A.length A.length) = fe (pcs ⟨(A ++ (x ++ R)).toArray⟩ 32 A.length (A.length + j))
  | 0, _ => rfl
  | j + 1, h => by
    rw [fe_run A x R hx j (by omega)]
    rw [fe_on (by rw [size_mk]; simp; omega) (by rw [bt_mk, getD_mid A x R j (by omega)]; exact hx j (by omega))]
    rfl
theorem fe_join : ∀ (r : List (List UInt8)) (A x : List UInt8), x ≠ [] → noB x → (∀ y ∈ r, y ≠ [] ∧ noB y) →
    fe (pcs ⟨(A ++ (x ++ Lib.joinTail [32] r)).toArray⟩ 32 A.length A.length) = (x :: r).map fun l => ⟨l.toArray⟩
  | [], A, x, h0, hx, _ => by
    have hl : 0 < x.length := List.length_pos_iff.2 h0
    have e := fe_run A x (Lib.joinTail [32] []) hx x.length (Nat.le_refl _)
    have hs : (⟨(A ++ (x ++ Lib.joinTail [32] [])).toArray⟩ : ByteArray).size = A.length + x.length := by rw [size_mk]; simp [Lib.joinTail]
    rw [e]
    have e2 := fe_end (s := ⟨(A ++ (x ++ Lib.joinTail [32] [])).toArray⟩) (f := A.length) (by rw [hs]; omega)
    rw [hs] at e2
    rw [e2]
    have e3 := fe_none (s := ⟨(A ++ (x ++ Lib.joinTail [32] [])).toArray⟩)
    rw [hs] at e3
    rw [e3, ext_mid]
    rfl
  | y :: r, A, x, h0, hx, hr => by
    have hl : 0 < x.length := List.length_pos_iff.2 h0
    have e := fe_run A x (Lib.joinTail [32] (y :: r)) hx x.length (Nat.le_refl _)
    have hj : Lib.joinTail [32] (y :: r) = [32] ++ (y ++ Lib.joinTail [32] r) := by simp [Lib.joinTail]
    have hs : A.length + x.length < (⟨(A ++ (x ++ Lib.joinTail [32] (y :: r))).toArray⟩ : ByteArray).size := by rw [size_mk, hj]; simp
    have hb : bt ⟨(A ++ (x ++ Lib.joinTail [32] (y :: r))).toArray⟩ (A.length + x.length) = 32 := by
      rw [bt_mk, hj]
      simp only [List.getD]
      rw [List.getElem?_append_right (by omega), show A.length + x.length - A.length = x.length by omega, List.getElem?_append_right (by omega)]
      simp
    rw [e, fe_cut hs hb (by omega), fe_skip hs hb, ext_mid]
    have hA : A ++ (x ++ Lib.joinTail [32] (y :: r)) = (A ++ x ++ [32]) ++ (y ++ Lib.joinTail [32] r) := by rw [hj]; simp
    have hy := hr y List.mem_cons_self
    have ih := fe_join r (A ++ x ++ [32]) y hy.1 hy.2 (fun q hq => hr q (List.mem_cons_of_mem _ hq))
    have hlen : (A ++ x ++ [32]).length = A.length + x.length + 1 := by simp; omega
    rw [hlen] at ih
    rw [hA, ih]
    rfl
theorem wds_txt {w : ByteArray} {W : List ByteArray} (h : ∀ x ∈ w :: W, x.size ≠ 0 ∧ noB x.data.toList) : wds (txt (w :: W)) = w :: W := by
  have e : (txt (w :: W)) = ⟨([] ++ (w.data.toList ++ Lib.joinTail [32] (W.map fun q : ByteArray => q.data.toList))).toArray⟩ := by
    simp only [txt, List.map_cons, Lib.join_cons, List.nil_append]
    rfl
  have hw := h w List.mem_cons_self
  have hne : ∀ x : ByteArray, x.size ≠ 0 → x.data.toList ≠ [] := fun x hx e => hx (by
    have : x.data.toList.length = 0 := by rw [e]; rfl
    show x.data.size = 0
    simpa using this)
  have k := fe_join (W.map fun q : ByteArray => q.data.toList) [] w.data.toList (hne w hw.1) hw.2 (fun y hy => by
    obtain ⟨q, hq, rfl⟩ := List.mem_map.1 hy
    have := h q (List.mem_cons_of_mem _ hq)
    exact ⟨hne q this.1, this.2⟩)
  unfold wds
  rw [e]
  refine k.trans ?_
  simp
  exact (List.map_congr_left (g := id) fun q _ => by show (⟨q.data.toList.toArray⟩ : ByteArray) = q; simp).trans (List.map_id W)
/-- Digits. -/
theorem bt_left (a : ByteArray) (x : Nat) (j : Nat) (hj : j < a.size) : bt (a ++ d1 x) j = bt a j := by
  rw [ba_append, bt_mk]
  simp only [List.getD]
  rw [List.getElem?_append_left (by simpa using hj)]
  rfl
theorem bt_last (a : ByteArray) (x : Nat) (hx : x ≤ 9) : bt (a ++ d1 x) a.size = 48 + x := by
  rw [ba_append, bt_mk]
  have hs : a.data.toList.length = a.size := by simp
  simp only [List.getD]
  rw [List.getElem?_append_right (by omega), show a.size - a.data.toList.length = 0 by omega]
  have : x < 10 := by omega
  simp [d1]
  omega
theorem dv_left (a : ByteArray) (x : Nat) : ∀ k, k ≤ a.size → dv (a ++ d1 x) k = dv a k
  | 0, _ => rfl
  | k + 1, h => by simp only [dv]; rw [dv_left a x k (by omega), bt_left a x k (by omega)]
theorem dok_left (a : ByteArray) (x : Nat) : ∀ k, k ≤ a.size → dok (a ++ d1 x) k = dok a k
  | 0, _ => rfl
  | k + 1, h => by simp only [dok]; rw [dok_left a x k (by omega), bt_left a x k (by omega)]
theorem one_dig {n : Nat} (h : n < 10) : dok (d1 n) 1 = true ∧ dv (d1 n) 1 = n := by
  have hb : bt (d1 n) 0 = 48 + n := by
    simp only [bt, d1, List.getD]
    simp
    omega
  constructor
  · simp only [dok, Bool.true_and, hb, decide_eq_true_eq]; omega
  · simp only [dv, hb]; omega
theorem dg_digits : ∀ n : Nat, dok (dg n) (dg n).size = true ∧ dv (dg n) (dg n).size = n ∧ ∀ k, 1 ≤ k → n < 10 ^ k → (dg n).size ≤ k := by
  intro n
  induction n using Nat.strongRecOn with
  | _ n ih =>
  by_cases h : n < 10
  · rw [dg_one h]
    obtain ⟨h1, h2⟩ := one_dig h
    exact ⟨h1, h2, fun k hk _ => by rw [d1_size]; exact hk⟩
  · obtain ⟨i1, i2, i3⟩ := ih (n / 10) (by omega)
    rw [dg_more h]
    have hs : (dg (n / 10) ++ d1 (n % 10)).size = (dg (n / 10)).size + 1 := by rw [ByteArray.size_append, d1_size]
    have hl := bt_last (dg (n / 10)) (n % 10) (by omega)
    rw [hs]
    refine ⟨?_, ?_, fun k hk hn => ?_⟩
    · simp only [dok]
      rw [dok_left _ _ _ (Nat.le_refl _), i1, hl]
      simp
      omega
    · simp only [dv]
      rw [dv_left _ _ _ (Nat.le_refl _), i2, hl]
      omega
    · obtain ⟨q, rfl⟩ : ∃ q, k = q + 1 := ⟨k - 1, by omega⟩
      rw [Nat.pow_succ] at hn
      by_cases hq : q = 0
      · subst hq; simp at hn; omega
      · have := i3 q (by omega) (by omega)
        omega
theorem num_dg {n : Nat} (h : n ≤ 999999999) : numB (dg n) = true ∧ numV (dg n) = n := by
  obtain ⟨h1, h2, h3⟩ := dg_digits n
  have h4 := h3 9 (by omega) (by omega)
  have hb : numB (dg n) = true := by simp only [numB, h1, Bool.and_true, decide_eq_true_eq]; exact h4
  exact ⟨hb, by simp only [numV, hb, if_true]; exact h2⟩
theorem dg_noB (n : Nat) : (dg n).size ≠ 0 ∧ noB (dg n).data.toList := by
  obtain ⟨h1, h2, h3⟩ := dg_digits n
  refine ⟨fun e => ?_, fun j hj => ?_⟩
  · by_cases h : n < 10
    · rw [dg_one h, d1_size] at e; omega
    · rw [dg_more h, ByteArray.size_append, d1_size] at e; omega
  · have hj2 : j < (dg n).size := by simpa using hj
    have := dok_le h1 (show j + 1 ≤ (dg n).size by omega)
    simp only [dok, Bool.and_eq_true, decide_eq_true_eq] at this
    have hb : bt (dg n) j = (((dg n).data.toList.getD j 0).toNat : Int) := rfl
    rw [← hb]
    omega
theorem fw_noB : ∀ k, k < 8 → 1 ≤ k → (fw k).size ≠ 0 ∧ ∀ j, j < (fw k).data.toList.length → (((fw k).data.toList.getD j 0).toNat : Int) ≠ 32 := by decide
theorem fws_words {k : Nat} (hk : k < 8) (h1 : 1 ≤ k) (x y z : Int) (m : Nat) : wds (txt (fws k x y z m)) = fws k x y z m := by
  refine wds_txt fun q hq => ?_
  rcases List.mem_cons.1 hq with rfl | h
  · exact fw_noB k hk h1
  · obtain ⟨j, _, rfl⟩ := List.mem_map.1 h
    exact dg_noB _
theorem sg_fws (k : Nat) (x y z : Int) (m j : Nat) (hj : j < m) : sg (fws k x y z m) (j + 1) = dg (nm x y z j).toNat := by
  simp [sg, fws, hj]
theorem kind_fws {k : Nat} (hk : k < 8) (h1 : 1 ≤ k) (x y z : Int) : kindP (fws k x y z (fc k)) = k := by
  refine kq_hit _ k ?_ 7 1 h1 (by omega) fun j a b => kfit_name fun e => ?_
  · simp only [kfit, Bool.and_eq_true, decide_eq_true_eq, fws_len]
    exact ⟨by omega, rfl⟩
  · have := fw_inj k hk j (by omega) e
    omega
theorem nums_fws {k : Nat} {x y z : Int} : ∀ m M, m ≤ M → fok x y z M = true → nums (fws k x y z M) m = true
  | 0, _, _, _ => rfl
  | m + 1, M, hm, h => by
    have hb := fok_le h (show m < M by omega)
    simp only [inB, Bool.and_eq_true, decide_eq_true_eq] at hb
    simp only [nums, nums_fws m M (by omega) h, Bool.true_and]
    rw [sg_fws k x y z M m (by omega)]
    exact (num_dg (by omega)).1
/-- What is read of the line that tells an act. -/
theorem read_back {k : Nat} {x y z : Int} (hf : ffit k x y z = true) : actOf (wds (ftext k x y z)) = #[.int .i64 0, .int .i64 k, .int .i64 (if 0 < fc k then x else 0), .int .i64 (if 1 < fc k then y else 0), .int .i64 (if 2 < fc k then z else 0)] := by
  have hf2 := hf
  simp only [ffit, inB, Bool.and_eq_true, decide_eq_true_eq] at hf2
  obtain ⟨⟨h1, h7⟩, hok⟩ := hf2
  have hkn : (k : Int).toNat = k := by omega
  rw [hkn] at hok
  rw [(ff_yes hf).2, hkn, fws_words (by omega) (by omega)]
  have hkk := kind_fws (k := k) (by omega) (by omega) x y z
  have hokA : okA (fws k x y z (fc k)) = true := by
    simp only [okA, hkk, fws_len, Bool.and_eq_true, decide_eq_true_eq]
    exact ⟨by omega, nums_fws _ _ (by omega) hok⟩
  rw [actOf_yes hokA, hkk]
  have e : ∀ j, nA (fws k x y z (fc k)) (j + 1) = if j < fc k then nm x y z j else 0 := fun j => by
    simp only [nA, fws_len]
    by_cases hj : j < fc k
    · have hb := fok_le hok hj
      simp only [inB, Bool.and_eq_true, decide_eq_true_eq] at hb
      rw [if_pos (by omega), if_pos hj, sg_fws k x y z (fc k) j hj, (num_dg (by omega)).2]
      omega
    · rw [if_neg (by omega), if_neg hj]
  rw [e 0, e 1, e 2]
  rfl
end Go.Proofs.YtiflheclfgloaaaDoor
