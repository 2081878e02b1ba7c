/- Rolling back, on lists of rows: what an undo takes back; that all undos that are left still have their rows. -/
import Derived.Test.YtabkgncnanlapaaGreatQEe
import Derived.Test.YtabkgncnanlapaaGreatQKz
namespace Go.Proofs.YtabkgncnanlapaaGreat
open Go.RowKit Go.Deep
set_option linter.unusedVariables false
set_option maxRecDepth 20000

/-- A row of which an undo is taken back. -/
def tkR (id : Int) (u : Ud) (r : Rw) : Rw := if u.h = true then ⟨r.key, r.n, fun i => if i = 0 then ⟨id, 0, u.g, u.v⟩ else r.U i⟩ else ⟨r.key, r.n - 1, fun i => r.U (i + 1)⟩
def tkF (id : Int) (u : Ud) (r : Rw) : Rw := if r.key = u.k then tkR id u r else r
def tkL (id : Int) (u : Ud) (rs : List Rw) : List Rw := (rs.map (tkF id u)).filter (fun r => decide (0 < r.n))
/-- The last m of n undos, the last one first. -/
def unL (id : Int) (U : Nat → Ud) (n : Nat) (rs : List Rw) : Nat → List Rw
  | 0 => rs
  | m + 1 => tkL id (U (n - 1 - m)) (unL id U n rs m)
theorem tkF_key (id : Int) (u : Ud) (r : Rw) : (tkF id u r).key = r.key := by
  unfold tkF tkR
  split
  · split <;> rfl
  · rfl
def RiL (rs : List Rw) : Prop := rs.Pairwise (fun x y => x.key < y.key)
/-- Rising, no row empty, and a row for each of the first k undos. -/
structure Fit (U : Nat → Ud) (k : Nat) (rs : List Rw) : Prop where
  ri : RiL rs
  pos : ∀ r ∈ rs, 0 < r.n
  has : ∀ j, j < k → ∃ r ∈ rs, r.key = (U j).k
theorem Fit.step {U : Nat → Ud} {k : Nat} {rs : List Rw} {id : Int} (h : Fit U (k + 1) rs) (hh : (U k).h = hasU U (U k).k k) : Fit U k (tkL id (U k) rs) := by
  refine ⟨?_, ?_, fun j hj => ?_⟩
  · refine List.Pairwise.filter _ (List.pairwise_map.2 (h.ri.imp fun hlt => ?_))
    rw [tkF_key, tkF_key]
    exact hlt
  · intro r hr
    have := (List.mem_filter.1 hr).2
    simpa using this
  · obtain ⟨r, hr, e⟩ := h.has j (by omega)
    refine ⟨tkF id (U k) r, List.mem_filter.2 ⟨List.mem_map.2 ⟨r, hr, rfl⟩, ?_⟩, by rw [tkF_key]; exact e⟩
    have hp := h.pos r hr
    unfold tkF
    split
    · rename_i e2
      have hu : (U k).h = true := by
        rw [hh]
        exact hasU_true hj (by rw [← e, e2])
      unfold tkR
      rw [if_pos hu]
      simpa using hp
    · simpa using hp
theorem Fit.un {U : Nat → Ud} {n : Nat} {rs : List Rw} {id : Int} (h : Fit U n rs) (hh : ∀ j, j < n → (U j).h = hasU U (U j).k j) : ∀ m, m ≤ n → Fit U (n - m) (unL id U n rs m)
  | 0, _ => h
  | m + 1, hm => by
    have h1 := Fit.un h hh m (by omega) (id := id)
    have e : n - m = n - (m + 1) + 1 := by omega
    rw [e] at h1
    have e2 : n - 1 - m = n - (m + 1) := by omega
    show Fit U (n - (m + 1)) (tkL id (U (n - 1 - m)) (unL id U n rs m))
    rw [e2]
    exact h1.step (hh _ (by omega))
theorem unL_len (id : Int) (U : Nat → Ud) (n : Nat) (rs : List Rw) : ∀ m, (unL id U n rs m).length ≤ rs.length
  | 0 => Nat.le_refl _
  | m + 1 => by
    have h1 := unL_len id U n rs m
    have h2 := List.length_filter_le (fun r : Rw => decide (0 < r.n)) ((unL id U n rs m).map (tkF id (U (n - 1 - m))))
    rw [List.length_map] at h2
    exact Nat.le_trans h2 h1
theorem unL_12 (id : Int) (U : Nat → Ud) (n : Nat) (rs : List Rw) (h : ∀ r ∈ rs, r.n ≤ 12) : ∀ m, ∀ r ∈ unL id U n rs m, r.n ≤ 12
  | 0 => h
  | m + 1 => by
    intro r hr
    obtain ⟨h1, _⟩ := List.mem_filter.1 hr
    obtain ⟨r0, h2, rfl⟩ := List.mem_map.1 h1
    have h3 := unL_12 id U n rs h m r0 h2
    unfold tkF tkR
    split
    · split
      · exact h3
      · show r0.n - 1 ≤ 12
        omega
    · exact h3
/-- A good engine: each undo of a transaction is of a row that is there. -/
theorem eF_ow {E : En} (h : eF E = 0) : ∀ i, i < E.p → owB E.q E.R (E.T i) = true := by
  unfold eF at h
  split at h
  · omega
  · split at h
    · omega
    · split at h
      · split at h
        · split at h
          · rename_i h9
            exact (allb_iff _ _).1 h9
          · omega
        · rename_i h1 h2
          exact absurd h h2
      · rename_i h1
        exact absurd h h1
theorem undo_row {E : En} (h : eF E = 0) {i : Nat} (hi : i < E.p) {j : Nat} (hj : j < (E.T i).n) : (∃ k, k < E.q ∧ (E.R k).key = ((E.T i).U j).k) ∧ ((E.T i).U j).h = hasU (E.T i).U ((E.T i).U j).k j := by
  have h1 := (allb_iff _ _).1 (eF_ow h i hi) j hj
  unfold oB at h1
  simp only [Bool.and_eq_true, decide_eq_true_eq, beq_iff_eq] at h1
  refine ⟨?_, h1.2⟩
  rcases fi_cases (fun k => (E.R k).key == ((E.T i).U j).k) E.q with ⟨h2, _⟩ | ⟨k, hk, h2, h3, _⟩
  · have h4 := h1.1.1
    unfold fR at h4
    rw [h2] at h4
    omega
  · exact ⟨k, hk, by simpa using h3⟩
def rwL (E : En) : List Rw := (List.range E.q).map E.R
theorem fit_start {E : En} (h : eF E = 0) {i : Nat} (hi : i < E.p) : Fit (E.T i).U (E.T i).n (rwL E) := by
  have hR := (eF_good h).2.2.2
  refine ⟨?_, fun r hr => ?_, fun j hj => ?_⟩
  · refine List.pairwise_map.2 (List.pairwise_iff_getElem.2 fun a b ha hb hab => ?_)
    simp only [List.getElem_range]
    simp only [List.length_range] at hb
    exact keys_rise hR b hb a hab
  · obtain ⟨k, hk, rfl⟩ := List.mem_map.1 hr
    have h1 := (rF_good (hR k (List.mem_range.1 hk))).2.1
    unfold rB1 at h1
    simp only [Bool.or_eq_false_iff, beq_eq_false_iff_ne] at h1
    omega
  · obtain ⟨k, hk, e⟩ := (undo_row h hi hj).1
    exact ⟨E.R k, List.mem_map.2 ⟨k, List.mem_range.2 hk, rfl⟩, e⟩
/-- An engine whose j-th transaction is rolled back to save. -/
def rlE (E : En) (j save : Nat) (st : Int) : En :=
  ⟨E.nx, E.ck, E.p, upf E.T j ⟨(E.T j).id, (E.T j).am, st, (E.T j).dn, save, (E.T j).U⟩, (unL (E.T j).id (E.T j).U (E.T j).n (rwL E) ((E.T j).n - save)).length, fun i => (unL (E.T j).id (E.T j).U (E.T j).n (rwL E) ((E.T j).n - save)).getD i zRw⟩
end Go.Proofs.YtabkgncnanlapaaGreat
