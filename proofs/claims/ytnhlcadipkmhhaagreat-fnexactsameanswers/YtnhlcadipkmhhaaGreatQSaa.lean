/- SameAnswers: the open transactions, the keys that one may write, and what is asked. -/
import Derived.Test.YtnhlcadipkmhhaaGreatQScb
import Derived.Test.YtnhlcadipkmhhaaGreatQOa
import Derived.Test.YtnhlcadipkmhhaaGreatQVl
import Derived.Test.YtnhlcadipkmhhaaGreatQKc
import Derived.Test.YtnhlcadipkmhhaaGreatQCeq
namespace Go.Proofs.YtnhlcadipkmhhaaGreat
open Go.RowKit Go.Deep
set_option linter.unusedVariables false
set_option maxRecDepth 20000

/-- The open transactions, of the first k. -/
def otX (T : Nat → Tx) : Nat → List Tx
  | 0 => []
  | k + 1 => if (T k).st = 1 then otX T k ++ [T k] else otX T k
theorem otX_len (T : Nat → Tx) : ∀ k, (otX T k).length ≤ k
  | 0 => Nat.le_refl _
  | k + 1 => by
    have := otX_len T k
    simp only [otX]
    split
    · simp; omega
    · omega
theorem otX_id (T : Nat → Tx) : ∀ k, otL T k = (otX T k).map Tx.id
  | 0 => rfl
  | k + 1 => by
    simp only [otX, otL]
    split
    · rw [otX_id T k, List.map_append]; rfl
    · exact otX_id T k
theorem otX_mem {T : Nat → Tx} {x : Tx} : ∀ k, x ∈ otX T k → ∃ j, j < k ∧ x = T j ∧ (T j).st = 1
  | 0, h => by simp [otX] at h
  | k + 1, h => by
    simp only [otX] at h
    split at h
    · rename_i hs
      rcases List.mem_append.1 h with h | h
      · obtain ⟨j, h1, h2⟩ := otX_mem k h
        exact ⟨j, by omega, h2⟩
      · simp at h
        exact ⟨k, by omega, h, hs⟩
    · obtain ⟨j, h1, h2⟩ := otX_mem k h
      exact ⟨j, by omega, h2⟩
/-- May a view write a key? The keys below k that it may write. -/
def myB (E : En) (x o key : Int) : Bool := if fR E.q E.R key < 0 then true else mayB (E.R (fR E.q E.R key).toNat).n (E.R (fR E.q E.R key).toNat).U x o
theorem myB_none {E : En} {x o key : Int} (h : fR E.q E.R key = -1) : myB E x o key = true := by
  unfold myB
  rw [h]
  rfl
theorem myB_some {E : En} {x o key : Int} {j : Nat} (h : fR E.q E.R key = (j : Int)) : myB E x o key = mayB (E.R j).n (E.R j).U x o := by
  unfold myB
  rw [h, if_neg (by omega), Int.toNat_natCast]
def myL (E : En) (x o : Int) : Nat → List Int
  | 0 => []
  | k + 1 => if myB E x o (k : Int) = true then myL E x o k ++ [(k : Int)] else myL E x o k
theorem myL_len (E : En) (x o : Int) : ∀ k, (myL E x o k).length ≤ k
  | 0 => Nat.le_refl _
  | k + 1 => by
    have := myL_len E x o k
    simp only [myL]
    split
    · simp; omega
    · omega
/-- What a transaction sees; what it may write; whether two cannot tell their engines apart. -/
def scE (E : En) (s : Tx) : List (Int × Int) := scL E.q E.R s.am s.id 0 31 E.q
def myE (E : En) (s : Tx) : List Int := myL E s.am s.id 32
def SEq (A B : En) (s t : Tx) : Prop := s.id = t.id ∧ scE A s = scE B t ∧ myE A s = myE B t
def oX (E : En) (i : Nat) : Tx := (otX E.T E.p).getD i zTx
def oN (E : En) : Nat := (otX E.T E.p).length
def SAP (A B : En) : Prop := eF A = 0 ∧ eF B = 0 ∧ A.ck = B.ck ∧ A.nx = B.nx ∧ oN A = oN B ∧ ∀ i, i < oN A → SEq A B (oX A i) (oX B i)
theorem oX_at {E : En} {i : Nat} (h : i < oN E) : ∃ j, j < E.p ∧ oX E i = E.T j ∧ (E.T j).st = 1 := by
  have h2 : i < (otX E.T E.p).length := h
  have : oX E i ∈ otX E.T E.p := by
    unfold oX
    rw [getD_at _ h2]
    exact List.getElem_mem h2
  exact otX_mem E.p this
theorem oX_id {E : En} {i : Nat} (h : i < oN E) : zI (otL E.T E.p) i = (oX E i).id := by
  have h2 : i < (otX E.T E.p).length := h
  unfold zI oX
  rw [otX_id, getD_at _ (by simpa using h2), List.getElem_map, getD_at _ h2]
theorem oN_len (E : En) : (otL E.T E.p).length = oN E := by rw [otX_id, List.length_map]; rfl
theorem fT_self {p : Nat} {T : Nat → Tx} (hs : ∀ j, j < p → ∀ i, i < j → (T i).id < (T j).id) {k : Nat} (hk : k < p) : fT p T (T k).id = (k : Int) := by
  have := fi_self (f := fun i => (T i).id == (T k).id) p 0 k hk (by simp) (fun i hi => by
    have := hs k hk i hi
    simp only [Nat.zero_add, beq_eq_false_iff_ne]
    omega)
  rwa [Nat.zero_add] at this
/-- An open transaction of a good engine: where it is found. -/
theorem open_ask {E : En} (h0 : eF E = 0) {j : Nat} (hj : j < E.p) (hst : (E.T j).st = 1) : fT E.p E.T (E.T j).id = (j : Int) ∧ askC E (E.T j).id = 0 ∧ askP E (E.T j).id = (j : Int) := by
  have h1 := fT_self (ids_rise (eF_good h0).2.2.1) hj
  obtain ⟨h2, h3⟩ := ask_some h0 h1
  rw [if_pos hst] at h2 h3
  exact ⟨h1, h2, h3⟩
theorem id_ne {E : En} (h0 : eF E = 0) {j : Nat} (hj : j < E.p) : (E.T j).id ≠ 0 := by
  have hi := (tF_good ((eF_good h0).2.2.1 j hj)).1
  unfold tIn at hi
  simp only [Bool.and_eq_true] at hi
  have a1 := inB_iff.1 hi.1.1.1
  omega
/-- What MayWrite tells of the chain that was found. -/
theorem mw_my {E : En} (h0 : eF E = 0) {j : Nat} (hj : j < E.p) {key : Int} {vn : Nat} {vU : Nat → Vr} (h : (fR E.q E.R key = -1 ∧ vn = 0) ∨ ∃ j, j < E.q ∧ fR E.q E.R key = (j : Int) ∧ vn = (E.R j).n ∧ vU = (E.R j).U) :
    (mwC vn vU (E.T j).am (E.T j).id == 0) = myB E (E.T j).am (E.T j).id key := by
  have hv := view_ok h0 hj
  have hd := id_ne h0 hj
  rcases h with ⟨h1, rfl⟩ | ⟨i, hi, h1, rfl, rfl⟩
  · have ha : avC 0 vU (E.T j).am (E.T j).id = 0 := by
      unfold avC
      rw [if_pos (by rfl), if_pos hv]
    rw [myB_none h1]
    unfold mwC
    rw [if_pos ha, if_neg hd]
    rfl
  · have ha : avC (E.R i).n (E.R i).U (E.T j).am (E.T j).id = 0 := by
      unfold avC
      rw [if_pos (rF_good ((eF_good h0).2.2.2 i hi)).2.2.1, if_pos hv]
    rw [myB_some h1]
    unfold mwC
    rw [if_pos ha, if_neg hd]
    cases mayB (E.R i).n (E.R i).U (E.T j).am (E.T j).id <;> rfl
end Go.Proofs.YtnhlcadipkmhhaaGreat
