/- The walk of a tree: its model. -/
import Derived.Test.YtbnehgpefjbheaaTnd
namespace Go.Proofs.Ytbnehgpefjbheaa
open Go.RowKit Go.Deep
set_option linter.unusedVariables false
set_option maxRecDepth 20000

/-- What was gone through: the nodes that were met, how many, the depth of leaves. -/
structure St where
  met : Nat → Bool
  cnt : Nat
  ld : Int
/-- Are all keys from lo on, below hi? -/
def kyB (K : Nat → Int) (lo hi : Int) : Nat → Bool
  | 0 => true
  | k + 1 => kyB K lo hi k && (decide (lo ≤ K k) && decide (K k < hi))
theorem kyB_false {K : Nat → Int} {lo hi : Int} : ∀ {m k : Nat}, k < m → ¬ (lo ≤ K k ∧ K k < hi) → kyB K lo hi m = false
  | m + 1, k, h, hn => by
    unfold kyB
    by_cases e : k = m
    · subst e
      have : (decide (lo ≤ K k) && decide (K k < hi)) = false := by
        cases hx : (decide (lo ≤ K k) && decide (K k < hi))
        · rfl
        · simp at hx; exact absurd hx hn
      rw [this]; simp
    · rw [kyB_false (m := m) (k := k) (by omega) hn]; rfl
theorem kyB_step {K : Nat → Int} {lo hi : Int} {k : Nat} (h : kyB K lo hi k = true) (h1 : lo ≤ K k) (h2 : K k < hi) : kyB K lo hi (k + 1) = true := by
  unfold kyB
  rw [h]
  simp [h1, h2]
def klo (t : Nd) (lo : Int) (k : Nat) : Int := if 0 < k then t.K (k - 1) else lo
def khi (t : Nd) (hi : Int) (k : Nat) : Int := if k < t.kn then t.K k else hi
/-- The first k kids, one behind the other. -/
def kdl (V : St → Nat → Int → Int → Option St) (t : Nd) (lo hi : Int) : Nat → St → Option St
  | 0, s => some s
  | k + 1, s => match kdl V t lo hi k s with
    | none => none
    | some s' => V s' (t.D k).toNat (klo t lo k) (khi t hi k)
theorem kdl_none {V : St → Nat → Int → Int → Option St} {t : Nd} {lo hi : Int} {s : St} : ∀ {m k : Nat}, k ≤ m → kdl V t lo hi k s = none → kdl V t lo hi m s = none := by
  intro m
  induction m with
  | zero => intro k h e; have : k = 0 := by omega
            subst this; exact e
  | succ m ih =>
    intro k h e
    by_cases c : k = m + 1
    · subst c; exact e
    · unfold kdl
      rw [ih (k := k) (by omega) e]
def met1 (s : St) (p : Nat) : St := ⟨upf s.met p true, s.cnt + 1, s.ld⟩
/-- A node and all below it; none: something is wrong. -/
def vis (T : Nat → Nd) : Nat → St → Nat → Int → Int → Int → Option St
  | 0, _, _, _, _, _ => none
  | f + 1, s, p, lo, hi, d =>
    if s.met p = true then none
    else if kyB (T p).K lo hi (T p).kn = false then none
    else if (T p).lf = true then (if s.ld = 0 ∨ s.ld = d then some ⟨upf s.met p true, s.cnt + 1, d⟩ else none)
    else kdl (fun s' q l h => vis T f s' q l h (d + 1)) (T p) lo hi (T p).dn (met1 s p)
/-- How many are not met yet. -/
def unm (m : Nat → Bool) : Nat → Nat
  | 0 => 0
  | k + 1 => unm m k + (if m k = true then 0 else 1)
theorem unm_far {m : Nat → Bool} {p : Nat} : ∀ n, n ≤ p → unm (upf m p true) n = unm m n
  | 0, _ => rfl
  | n + 1, h => by
    unfold unm
    rw [unm_far n (by omega), upf_ne _ _ (by omega)]
theorem unm_upd {m : Nat → Bool} {p : Nat} (hm : m p = false) : ∀ n, p < n → unm (upf m p true) n + 1 = unm m n
  | n + 1, h => by
    unfold unm
    by_cases e : p = n
    · subst e
      rw [unm_far _ (Nat.le_refl _), upf_eq, hm]; simp
    · have := unm_upd hm n (by omega)
      rw [upf_ne _ _ (by omega)]
      omega
/-- What is right with all nodes of a tree of n. -/
def GoodN (T : Nat → Nd) (n : Nat) : Prop := ∀ i, i < n → cntB (T i) = true ∧ ∀ j, j < (T i).dn → 0 ≤ (T i).D j ∧ (T i).D j < n
theorem goodN_of {T : Nat → Nd} {n : Nat} (h : ∀ i, i < n → ndF n (T i) = 0) : GoodN T n := fun i hi => by
  have h0 := h i hi
  unfold ndF at h0
  split at h0
  · omega
  · rename_i hc
    split at h0
    · omega
    · split at h0
      · omega
      · rename_i hd
        refine ⟨by simpa using hc, fun j hj => ?_⟩
        exact inf_all (T i).dn 0 (by simpa using hd) j (by omega) (by omega)
theorem kdl_inv {P : St → Prop} {V : St → Nat → Int → Int → Option St} {t : Nd} {lo hi : Int} {s : St} (hs : P s) : ∀ k s', (∀ j, j < k → ∀ s1 s2, P s1 → V s1 (t.D j).toNat (klo t lo j) (khi t hi j) = some s2 → P s2) → kdl V t lo hi k s = some s' → P s'
  | 0, s', _, e => by
    unfold kdl at e
    exact Option.some.inj e ▸ hs
  | k + 1, s', hV, e => by
    unfold kdl at e
    split at e
    · exact absurd e (by simp)
    · rename_i s1 e1
      exact hV k (by omega) s1 s' (kdl_inv hs k s1 (fun j hj => hV j (by omega)) e1) e
/-- What stays: what was met and what was not are all; no more is left than was. -/
def Inv (n u : Nat) (s : St) : Prop := s.cnt + unm s.met n = n ∧ unm s.met n ≤ u
theorem vis_inv {T : Nat → Nd} {n : Nat} (hG : GoodN T n) : ∀ f s p lo hi d s' u, p < n → Inv n u s → vis T f s p lo hi d = some s' → Inv n u s'
  | 0, s, p, lo, hi, d, s', u, hp, hI, e => by unfold vis at e; exact absurd e (by simp)
  | f + 1, s, p, lo, hi, d, s', u, hp, hI, e => by
    unfold vis at e
    split at e
    · exact absurd e (by simp)
    · rename_i hm
      have hm' : s.met p = false := by simpa using hm
      have hu := unm_upd hm' n hp
      obtain ⟨h1, h2⟩ := hI
      split at e
      · exact absurd e (by simp)
      · split at e
        · split at e
          · have := Option.some.inj e
            subst this
            exact ⟨by show s.cnt + 1 + unm (upf s.met p true) n = n; omega, by show unm (upf s.met p true) n ≤ u; omega⟩
          · exact absurd e (by simp)
        · refine kdl_inv (P := Inv n u) ⟨by show s.cnt + 1 + unm (upf s.met p true) n = n; omega, by show unm (upf s.met p true) n ≤ u; omega⟩ _ s' (fun j hj s1 s2 i1 i2 => ?_) e
          have hD := (hG p hp).2 j hj
          exact vis_inv hG f s1 _ _ _ _ s2 u (by omega) i1 i2
/-- Does the tree hang together? -/
def s0 : St := ⟨fun _ => false, 0, 0⟩
def hng (t : Tr) : Bool := match vis t.T (t.n + 1) s0 t.root.toNat 0 10001 1 with
  | none => false
  | some s => s.cnt == t.n
/-- The first fault of nodes from the k-th on, f of them. -/
def nsF (n : Nat) (T : Nat → Nd) : Nat → Nat → Int
  | 0, _ => 0
  | f + 1, k => if ndF n (T k) = 0 then nsF n T f (k + 1) else ndF n (T k)
theorem nsF_at {n m k : Nat} {T : Nat → Nd} (h : k < m) : nsF n T (m - k) k = if ndF n (T k) = 0 then nsF n T (m - (k + 1)) (k + 1) else ndF n (T k) := by
  have : m - k = (m - (k + 1)) + 1 := by omega
  rw [this, nsF]
theorem nsF_all {n : Nat} {T : Nat → Nd} : ∀ f k, nsF n T f k = 0 → ∀ i, k ≤ i → i < k + f → ndF n (T i) = 0
  | 0, k, _, i, h1, h2 => by omega
  | f + 1, k, h, i, h1, h2 => by
    rw [nsF] at h
    by_cases e : ndF n (T k) = 0
    · rw [if_pos e] at h
      by_cases c : i = k
      · subst c; exact e
      · exact nsF_all f (k + 1) h i (by omega) (by omega)
    · rw [if_neg e] at h
      exact absurd h e
/-- The fault of a tree. -/
def trF (t : Tr) : Int := if t.n < 1 ∨ 60 < t.n then 2 else if nsF t.n t.T t.n 0 ≠ 0 then nsF t.n t.T t.n 0 else if inB t.root 0 ((t.n : Int) - 1) = false then 3 else if hng t = true then 0 else 1
theorem unm_s0 : ∀ n, unm s0.met n = n
  | 0 => rfl
  | n + 1 => by
    unfold unm
    rw [unm_s0 n]; simp [s0]
end Go.Proofs.Ytbnehgpefjbheaa
