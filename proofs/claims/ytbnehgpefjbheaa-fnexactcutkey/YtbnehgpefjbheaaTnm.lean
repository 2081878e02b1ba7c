/- Ways from a node to a leaf: their model; which kid a key leads to. -/
import Derived.Test.YtbnehgpefjbheaaTnj
namespace Go.Proofs.Ytbnehgpefjbheaa
open Go.RowKit Go.Deep
set_option linter.unusedVariables false
set_option maxRecDepth 20000

/-- How many keys from the k-th on, f of them, are not above the key, and k more. -/
def kxf (K : Nat → Int) (key : Int) : Nat → Nat → Nat
  | 0, k => k
  | f + 1, k => if K k ≤ key then kxf K key f (k + 1) else k
theorem kxf_at {K : Nat → Int} {key : Int} {n k : Nat} (h : k < n) : kxf K key (n - k) k = if K k ≤ key then kxf K key (n - (k + 1)) (k + 1) else k := by
  have : n - k = (n - (k + 1)) + 1 := by omega
  rw [this, kxf]
theorem kxf_le {K : Nat → Int} {key : Int} : ∀ f k, kxf K key f k ≤ f + k
  | 0, k => by simp [kxf]
  | f + 1, k => by
    rw [kxf]
    split
    · have := kxf_le (K := K) (key := key) f (k + 1); omega
    · omega
def kix (t : Nd) (key : Int) : Nat := kxf t.K key t.kn 0
theorem kix_le (t : Nd) (key : Int) : kix t key ≤ t.kn := by have := kxf_le (K := t.K) (key := key) t.kn 0; unfold kix; omega
/-- All ways from a node end, at most f nodes long. -/
def fin (T : Nat → Nd) : Nat → Nat → Prop
  | 0, _ => False
  | f + 1, p => (T p).lf = true ∨ ∀ j, j < (T p).dn → fin T f ((T p).D j).toNat
theorem kdl_some {V : St → Nat → Int → Int → Option St} {t : Nd} {lo hi : Int} {s : St} : ∀ k s', kdl V t lo hi k s = some s' → ∀ j, j < k → ∃ s1 s2, V s1 (t.D j).toNat (klo t lo j) (khi t hi j) = some s2
  | 0, s', _, j, h => by omega
  | k + 1, s', e, j, h => by
    unfold kdl at e
    split at e
    · exact absurd e (by simp)
    · rename_i s1 e1
      by_cases c : j = k
      · subst c; exact ⟨s1, s', e⟩
      · exact kdl_some k s1 e1 j (by omega)
theorem vis_fin {T : Nat → Nd} : ∀ f s p lo hi d s', vis T f s p lo hi d = some s' → fin T f p
  | 0, s, p, lo, hi, d, s', e => by unfold vis at e; exact absurd e (by simp)
  | f + 1, s, p, lo, hi, d, s', e => by
    unfold vis at e
    split at e
    · exact absurd e (by simp)
    · split at e
      · exact absurd e (by simp)
      · split at e
        · rename_i h; exact .inl h
        · refine .inr fun j hj => ?_
          obtain ⟨s1, s2, e2⟩ := kdl_some _ _ e j hj
          exact vis_fin f s1 _ _ _ _ s2 e2
/-- The way from a node to the leaf of a key. -/
def pth (T : Nat → Nd) (key : Int) : Nat → Nat → List Int
  | 0, _ => []
  | f + 1, p => (p : Int) :: (if (T p).lf = true then [] else pth T key f ((T p).D (kix (T p) key)).toNat)
def lst (T : Nat → Nd) (key : Int) : Nat → Nat → Nat
  | 0, p => p
  | f + 1, p => if (T p).lf = true then p else lst T key f ((T p).D (kix (T p) key)).toNat
theorem pth_len (T : Nat → Nd) (key : Int) : ∀ f p, (pth T key f p).length ≤ f
  | 0, p => by simp [pth]
  | f + 1, p => by
    simp only [pth, List.length_cons]
    split
    · simp
    · have := pth_len T key f ((T p).D (kix (T p) key)).toNat; omega
theorem cntB_dn {t : Nd} (h : cntB t = true) (hl : t.lf = false) : t.dn = t.kn + 1 ∧ 1 ≤ t.kn := by
  unfold cntB at h
  rw [if_neg (by rw [hl]; simp)] at h
  simp at h
  omega
theorem kid_ok {T : Nat → Nd} {n p : Nat} (hG : GoodN T n) (hp : p < n) (hl : (T p).lf = false) (key : Int) : kix (T p) key < (T p).dn ∧ 0 ≤ (T p).D (kix (T p) key) ∧ (T p).D (kix (T p) key) < n ∧ (T p).kn ≤ 3 := by
  obtain ⟨h1, h2⟩ := hG p hp
  have h3 := cntB_dn h1 hl
  have h4 := kix_le (T p) key
  have h5 : kix (T p) key < (T p).dn := by omega
  exact ⟨h5, (h2 _ h5).1, (h2 _ h5).2, (cntB_le h1).1⟩
theorem lst_ok {T : Nat → Nd} {n : Nat} (hG : GoodN T n) (key : Int) : ∀ f p, p < n → lst T key f p < n
  | 0, p, hp => hp
  | f + 1, p, hp => by
    unfold lst
    cases hl : (T p).lf
    · rw [if_neg (by simp)]
      obtain ⟨_, h1, h2, _⟩ := kid_ok hG hp hl key
      exact lst_ok hG key f _ (by omega)
    · rw [if_pos rfl]; exact hp
theorem pth_last {T : Nat → Nd} (key : Int) {n : Nat} (hG : GoodN T n) : ∀ f p, p < n → fin T f p → 1 ≤ (pth T key f p).length ∧ zI (pth T key f p) ((pth T key f p).length - 1) = (lst T key f p : Int)
  | 0, p, _, h => absurd h (by simp [fin])
  | f + 1, p, hp, h => by
    cases hl : (T p).lf
    · have hk := kid_ok hG hp hl key
      have hf : fin T f ((T p).D (kix (T p) key)).toNat := by
        rcases h with h | h
        · rw [hl] at h; exact absurd h (by simp)
        · exact h _ hk.1
      obtain ⟨h1, h2⟩ := pth_last key hG f _ (by omega) hf
      have e1 : pth T key (f + 1) p = (p : Int) :: pth T key f ((T p).D (kix (T p) key)).toNat := by simp only [pth]; rw [if_neg (by rw [hl]; simp)]
      have e2 : lst T key (f + 1) p = lst T key f ((T p).D (kix (T p) key)).toNat := by simp only [lst]; rw [if_neg (by rw [hl]; simp)]
      rw [e1, e2]
      refine ⟨by simp, ?_⟩
      rw [← h2]
      unfold zI
      rw [List.length_cons, Nat.add_sub_cancel]
      obtain ⟨m, hm⟩ : ∃ m, (pth T key f ((T p).D (kix (T p) key)).toNat).length = m + 1 := ⟨_, (Nat.sub_add_cancel h1).symm⟩
      rw [hm]
      simp
    · have e1 : pth T key (f + 1) p = [(p : Int)] := by simp only [pth]; rw [if_pos hl]
      have e2 : lst T key (f + 1) p = p := by simp only [lst]; rw [if_pos hl]
      rw [e1, e2]
      exact ⟨by simp, rfl⟩
theorem l4Kid_any (t : Nd) (key : Int) (b o : Nat) (ak ad : Option Addr) (ck cd : Nat) (w : World) (hk : t.kn ≤ 3) (h : CNd w b o t ak ck ad cd) (hy : IntsAt w ak t.kn t.K) :
    Calls Try.prog 68 #[.pointer (some ⟨b, o, none⟩), .int .i64 key] w fun e w' => e = .returned (.int .i64 (kix t key)) ∧ ∃ m, w' = w.drewN m := by
  obtain ⟨q0, q1, q2⟩ := h
  have HY : Hid (IntsAt w ak t.kn t.K) := hy
  clear hy
  go_enter Try.func68, Try.ntmps68
  go_wp2_with fail
  go_loop [5] (fun i => ∃ k : Nat, k ≤ t.kn ∧ i = .int .i64 k ∧ Hid (kix t key = kxf t.K key (t.kn - k) k)) (fun i => t.kn - (intOf i).toNat)
  case atStart => exact ⟨0, Nat.zero_le _, rfl, rfl⟩
  case round =>
    obtain ⟨k, hk0, rfl, HI⟩ := hrel
    by_cases hlt : k < t.kn
    · have hlt' : (k : Int) < (t.kn : Int) := by omega
      have hk0' : (0 : Int) ≤ (k : Int) := by omega
      have hd1 : decide ((k : Int) < (t.kn : Int)) = true := decide_eq_true hlt'
      rcases HY.out with h | ⟨b1, o1, rfl, hl1, hc1⟩
      · omega
      have hx := hc1 k hlt
      have HD : Hid (kix t key = _) := HI.out.trans (kxf_at hlt)
      clear HI hc1
      by_cases hle : t.K k ≤ key
      · have HI : Hid (kix t key = kxf t.K key (t.kn - (k + 1)) (k + 1)) := HD.out.trans (if_pos hle)
        clear HD
        generalize t.K k = tk at *
        go_wp2_with fail
        go_round
        case rel => exact ⟨k + 1, hlt, by go_num, HI⟩
        case measure => simp [intOf]; omega
      · have HI : Hid (kix t key = k) := HD.out.trans (if_neg hle)
        clear HD
        generalize t.K k = tk at *
        go_wp2_with fail
        go_ret
        exact ⟨ret_int (by rw [HI.out]), 0, rfl⟩
    · have hnl : ¬ ((k : Int) < (t.kn : Int)) := by omega
      have hd1 : decide ((k : Int) < (t.kn : Int)) = false := decide_eq_false hnl
      have HI0 : Hid (kix t key = k) := by
        refine HI.out.trans ?_
        rw [show t.kn - k = 0 by omega, kxf]
      go_wp2_with fail
      go_ret
      exact ⟨ret_int (by rw [HI0.out]), 0, rfl⟩
theorem keysUpTo_any (t : Nd) (key : Int) (b o : Nat) (ak ad : Option Addr) (ck cd : Nat) (w : World) (hk : t.kn ≤ 3) (h : CNd w b o t ak ck ad cd) (hy : IntsAt w ak t.kn t.K) :
    Calls Try.prog 83 #[.pointer (some ⟨b, o, none⟩), .int .i64 key] w fun e w' => e = .returned (.int .i64 (kix t key)) ∧ w' = w := by
  obtain ⟨q0, q1, q2⟩ := h
  have HY : Hid (IntsAt w ak t.kn t.K) := hy
  clear hy
  go_enter Try.func83, Try.ntmps83
  go_wp2_with fail
  go_loop [5] (fun i => ∃ k : Nat, k ≤ t.kn ∧ i = .int .i64 k ∧ Hid (kix t key = kxf t.K key (t.kn - k) k)) (fun i => t.kn - (intOf i).toNat)
  case atStart => exact ⟨0, Nat.zero_le _, rfl, rfl⟩
  case round =>
    obtain ⟨k, hk0, rfl, HI⟩ := hrel
    by_cases hlt : k < t.kn
    · have hlt' : (k : Int) < (t.kn : Int) := by omega
      have hk0' : (0 : Int) ≤ (k : Int) := by omega
      have hd1 : decide ((k : Int) < (t.kn : Int)) = true := decide_eq_true hlt'
      rcases HY.out with h | ⟨b1, o1, rfl, hl1, hc1⟩
      · omega
      have hx := hc1 k hlt
      have HD : Hid (kix t key = _) := HI.out.trans (kxf_at hlt)
      clear HI hc1
      by_cases hle : t.K k ≤ key
      · have HI : Hid (kix t key = kxf t.K key (t.kn - (k + 1)) (k + 1)) := HD.out.trans (if_pos hle)
        clear HD
        generalize t.K k = tk at *
        go_wp2_with fail
        go_round
        case rel => exact ⟨k + 1, hlt, by go_num, HI⟩
        case measure => simp [intOf]; omega
      · have HI : Hid (kix t key = k) := HD.out.trans (if_neg hle)
        clear HD
        generalize t.K k = tk at *
        go_wp2_with fail
        go_ret
        exact ⟨ret_int (by rw [HI.out]), rfl⟩
    · have hnl : ¬ ((k : Int) < (t.kn : Int)) := by omega
      have hd1 : decide ((k : Int) < (t.kn : Int)) = false := decide_eq_false hnl
      have HI0 : Hid (kix t key = k) := by
        refine HI.out.trans ?_
        rw [show t.kn - k = 0 by omega, kxf]
      go_wp2_with fail
      go_ret
      exact ⟨ret_int (by rw [HI0.out]), rfl⟩
/-- What a tree without a fault is. -/
theorem trF_good {t : Tr} (h : trF t = 0) : 1 ≤ t.n ∧ t.n ≤ 60 ∧ GoodN t.T t.n ∧ (0 ≤ t.root ∧ t.root < t.n) ∧ fin t.T (t.n + 1) t.root.toNat := by
  unfold trF at h
  split at h
  · omega
  · rename_i h1
    split at h
    · rename_i h2; exact absurd h h2
    · rename_i h2
      split at h
      · omega
      · rename_i h3
        split at h
        · rename_i h4
          have h2' : nsF t.n t.T t.n 0 = 0 := by simpa using h2
          have h3' : inB t.root 0 ((t.n : Int) - 1) = true := by simpa using h3
          simp [inB] at h3'
          refine ⟨by omega, by omega, goodN_of fun i hi => nsF_all t.n 0 h2' i (by omega) (by omega), ⟨by omega, by omega⟩, ?_⟩
          unfold hng at h4
          split at h4
          · exact absurd h4 (by simp)
          · rename_i s e
            exact vis_fin _ _ _ _ _ _ _ e
        · omega
end Go.Proofs.Ytbnehgpefjbheaa
