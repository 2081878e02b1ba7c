/- Trees in memory: held; TreeResult; the store of one node's keys; numbers without one. -/
import Derived.Test.YtbnehgpefjbheaaTcc
import Derived.Test.YtbnehgpefjbheaaTcd
import Derived.Test.YtbnehgpefjbheaaTnr
namespace Go.Proofs.Ytbnehgpefjbheaa
open Go.RowKit Go.Deep
set_option linter.unusedVariables false
set_option maxRecDepth 20000

set_option maxHeartbeats 2000000 in
theorem heldNodeS_any (n : Nat) (T : Nat → Nd) (a : Option Addr) (cap : Nat) (m : Int) (w : World) (hn : n ≤ 1048576) (hs : smNd T n ≤ 1048576) (hm1 : 0 ≤ m) (hm2 : m ≤ 16777216) (h : NdsAt w a n (mT m T)) :
    Calls Try.prog 85 #[.slice a n cap, .int .i64 m] w fun e w' => e = .returned (.int .i64 (m + sNd T n)) ∧ w' = w := by
  have HA : Hid (NdsAt w a n (mT m T)) := h
  clear h
  go_enter Try.func85, Try.ntmps85
  go_wp2
  go_loop [1, 5] (fun q i => ∃ k : Nat, k ≤ n ∧ i = .int .i64 k ∧ q = .int .i64 (m + sNd T k)) (fun _ i => n - (intOf i).toNat)
  case atStart => exact ⟨0, Nat.zero_le _, rfl, by simp [sNd, smf]⟩
  case round =>
    obtain ⟨k, hk0, rfl, rfl⟩ := hrel
    by_cases hlt : k < n
    · rcases HA.out with h | ⟨b, off, rfl, hl, hc⟩
      · omega
      obtain ⟨ak, ck, ad, cd, ⟨q0, q1, q2⟩, hy1, hy2, -⟩ := hc k hlt
      have HY1 : Hid (IntsAt w ak (T k).kn (ik (m + sNd T k + 1))) := hy1
      have HY2 : Hid (IntsAt w ad (T k).dn (ik (m + sNd T k + 1 + (T k).kn))) := hy2
      have p0 : w.cell? ⟨b, off + k * 3, none⟩ = some (.bool (mBl (m + sNd T k))) := q0
      have p1 : w.cell? ⟨b, off + k * 3 + 1, none⟩ = some (.slice ak (T k).kn ck) := q1
      have p2 : w.cell? ⟨b, off + k * 3 + 2, none⟩ = some (.slice ad (T k).dn cd) := q2
      have hLk := smf_ge (fun i => (T i).kn + (T i).dn) n k hlt
      have hsk := smf_le (fun i => (T i).kn + (T i).dn) (n := n) (i := k) (by omega)
      have hstep : (sNd T (k + 1) : Int) = sNd T k + (T k).kn + (T k).dn + 1 := by simp [sNd, smf]; omega
      have hbS : sNd T k = smNd T k + k := sNd_eq T k
      have hSb : (sNd T k : Int) ≤ 2097152 := by unfold smNd at *; omega
      have hS0 : 0 ≤ (sNd T k : Int) := by omega
      have hTk : (T k).kn ≤ 1048576 := by unfold smNd at *; omega
      have hTd : (T k).dn ≤ 1048576 := by unfold smNd at *; omega
      clear q0 q1 q2 hy1 hy2 hc hbS hLk hsk
      generalize hS : (sNd T k : Int) = S at *
      have hbl3 : ((m + S) % 3 == 0) = mBl (m + S) := by unfold mBl; rw [Int.tmod_eq_emod_of_nonneg (by omega)]
      have hne : (mBl (m + S) != mBl (m + S)) = false := by simp
      have hn1 : ¬ (m + S + 1 + ((T k).kn : Int) < 0) := by omega
      have hn2 : ¬ (m + S + 1 + ((T k).kn : Int) + ((T k).dn : Int) < 0) := by omega
      clear hS
      go_wp2_with fail
      refine (heldInt64S_any (T k).kn ak ck (m + S + 1) _ hTk (by omega) (by omega) HY1.out).mono ?_
      rintro e w' ⟨rfl, rfl⟩
      go_wp2_with fail
      refine (heldInt64S_any (T k).dn ad cd (m + S + 1 + (T k).kn) _ hTd (by omega) (by omega) HY2.out).mono ?_
      rintro e w' ⟨rfl, rfl⟩
      go_wp2_with fail
      go_round
      case rel => exact ⟨k + 1, hlt, by go_num, by rw [hstep]; congr 1; omega⟩
      case measure => simp [intOf]; omega
    · have hkn : k = n := by omega
      have hnl : ¬ ((k : Int) < (n : Int)) := by omega
      go_wp2_with fail
      go_ret
      exact ⟨ret_int (by first | rfl | rw [hkn]), rfl⟩
theorem heldTree_any (t : Tr) (a : Option Addr) (cap : Nat) (m x : Int) (w : World) (hs : SmallT t) (hm1 : 0 ≤ m) (hm2 : m ≤ 1048576) (h : NdsAt w a t.n (mT m t.T)) :
    Calls Try.prog 65 #[.agg #[.int .i64 x, .slice a t.n cap], .int .i64 m] w fun e w' => e = .returned (.int .i64 (m + totT t)) ∧ Below w.heap.size w w' := by
  have HS : Hid (SmallT t) := hs
  have HO : Hid (∀ o : Obj, NdsAt (w.alloc o) a t.n (mT m t.T)) := fun o => h.below (below_new _ _)
  have HE : Hid (m + (totT t : Int) = m + (sNd t.T t.n : Int)) := rfl
  have hneg : ¬ (m + (sNd t.T t.n : Int) < 0) := by omega
  clear h hs
  go_enter Try.func65, Try.ntmps65
  go_wp2_with fail
  refine (heldNodeS_any t.n t.T a cap m _ HS.out.n HS.out.s hm1 (by omega) (HO.out _)).mono ?_
  rintro e w1 ⟨rfl, rfl⟩
  go_wp2_with fail
  go_ret
  exact ⟨ret_int HE.out.symm, below_new _ _⟩
theorem eqTreeResult_same (c : Int) (t : Tr) (a a' : Option Addr) (cap cap' : Nat) (w : World) (hs : SmallT t) (h : NdsAt w a t.n t.T) (h' : NdsAt w a' t.n t.T) :
    Calls Try.prog 31 #[.agg #[.int .i64 c, .int .i64 t.root, .slice a t.n cap], .agg #[.int .i64 c, .int .i64 t.root, .slice a' t.n cap']] w fun e w' => e = .returned (.bool true) ∧ Below w.heap.size w w' := by
  have HS : Hid (SmallT t) := hs
  have H1 : Hid (NdsAt w a t.n t.T) := h
  have H2 : Hid (NdsAt w a' t.n t.T) := h'
  clear hs h h'
  have hcc : (c != c) = false := by simp
  have hb0 : ∀ o1 o2, Below w.heap.size w ((w.alloc o1).alloc o2) := fun o1 o2 => (((Below.refl _ _).alloc (Nat.le_refl _) _).alloc (by simp) _)
  go_enter Try.func31, Try.ntmps31
  go_wp2_with fail
  refine (eqTree_same t a a' cap cap' _ HS.out (H1.out.below (hb0 _ _)) (H2.out.below (hb0 _ _))).mono ?_
  rintro e w1 ⟨rfl, hb1⟩
  go_wp2_with fail
  go_ret
  exact ⟨rfl, below_then (hb0 _ _) hb1⟩
theorem markTreeResult_any (c : Int) (t : Tr) (a : Option Addr) (cap lo hi : Nat) (w : World) (hs : SmallT t) (h : OwnNd w lo hi a t.n t.T) :
    Calls Try.prog 32 #[.agg #[.int .i64 c, .int .i64 t.root, .slice a t.n cap], .int .i64 1] w fun e w' => e = .returned (.int .i64 (1 + totT t)) ∧ Writes lo hi w w' ∧ OwnNd w' lo hi a t.n (mT 1 t.T) := by
  have HS : Hid (SmallT t) := hs
  have HO : Hid (OwnNd w lo hi a t.n t.T) := h
  clear hs h
  go_enter Try.func32, Try.ntmps32
  go_wp2_with fail
  refine (markTree_any t a cap lo hi 1 _ HS.out (by omega) (by omega) (HO.out.below (below_new _ _))).mono ?_
  rintro e w1 ⟨rfl, hw, ho⟩
  go_wp2_with fail
  go_ret
  exact ⟨rfl, (Writes.of_below (below_new _ _)).trans hw, ho⟩
theorem heldTreeResult_any (c : Int) (t : Tr) (a : Option Addr) (cap : Nat) (x : Int) (w : World) (hs : SmallT t) (h : NdsAt w a t.n (mT 1 t.T)) :
    Calls Try.prog 33 #[.agg #[.int .i64 c, .int .i64 x, .slice a t.n cap], .int .i64 1] w fun e w' => e = .returned (.int .i64 (1 + totT t)) ∧ Below w.heap.size w w' := by
  have HS : Hid (SmallT t) := hs
  have HO : Hid (NdsAt w a t.n (mT 1 t.T)) := h
  have hneg : ¬ ((1 : Int) + (totT t : Int) < 0) := by omega
  clear hs h
  go_enter Try.func33, Try.ntmps33
  go_wp2_with fail
  refine (heldTree_any t a cap 1 x _ HS.out (by omega) (by omega) (HO.out.below (below_new _ _))).mono ?_
  rintro e w1 ⟨rfl, hb⟩
  go_wp2_with fail
  go_ret
  exact ⟨rfl, below_then (below_new _ _) hb⟩
/-! ### the keys of one leaf are stored -/
theorem OwnNd.keys {w : World} {lo hi hi' l' b off n j kn ck : Nat} {K : Nat → Int} {T : Nat → Nd} {ak : Option Addr} (h : OwnNd w lo hi (some ⟨b, off, none⟩) n T) (hj : j < n) (hd0 : (T j).dn = 0) (e1 : hi ≤ l') (e3 : l' ≤ hi') (e4 : hi' ≤ w.heap.size) (hn : kn ≤ ck) (hu : OwnI w l' hi' ak kn K) :
    OwnNd (w.setCell ⟨b, off + j * 3 + 1, none⟩ (.slice ak kn ck)) lo hi' (some ⟨b, off, none⟩) n (upf T j { T j with kn := kn, K := K }) := by
  obtain ⟨h0, h1 | ⟨b1, off1, ha, hlo, hl, hf, l, h, hd, hc⟩⟩ := h
  · omega
  simp only [Option.some.injEq, Addr.mk.injEq, and_true] at ha
  obtain ⟨rfl, rfl⟩ := ha
  have hw : Writes b (b + 1) w (w.setCell ⟨b, off + j * 3 + 1, none⟩ (.slice ak kn ck)) := Writes.setCell (Writes.refl _ _ _) (p := ⟨b, _, none⟩) (Nat.le_refl _) (Nat.lt_succ_self _) _
  have hz : (w.setCell ⟨b, off + j * 3 + 1, none⟩ (.slice ak kn ck)).heap.size = w.heap.size := by simp [World.setCell]
  refine ⟨by rw [hz]; exact e4, .inr ⟨b, off, rfl, hlo, by omega, fun i => by rw [World.frozen?_setCell]; exact hf i, fun i => if i = j then l' else l i, fun i => if i = j then hi' else h i, fun i q hi hq hne => ?_, fun i hi => ?_⟩⟩
  · by_cases c1 : i = j <;> by_cases c2 : q = j <;> simp only [c1, c2, if_true, if_false]
    · omega
    · have := (hc q hq).2.1; omega
    · have := (hc i hi).2.1; omega
    · exact hd i q hi hq hne
  · obtain ⟨k0, k1, ak', ck', ad', cd', k2, k3, k4, k5⟩ := hc i hi
    have k6 := k5.lt
    by_cases e : i = j
    · subst e
      simp only [if_true, upf_eq]
      refine ⟨by omega, by omega, ak, ck, ad', cd', ⟨?_, setS k2.2.1, ?_⟩, hn, k4, hi', e3, Nat.le_refl _, hu.writes hw (by omega), ?_⟩
      · exact (setO (by omega)).trans k2.1
      · exact (setO (by omega)).trans k2.2.2
      · exact ⟨by rw [hz]; exact e4, .inl hd0⟩
    · simp only [if_neg e]
      rw [upf_ne _ _ e]
      refine ⟨k0, by omega, ak', ck', ad', cd', ⟨(setO (by omega)).trans k2.1, (setO (by omega)).trans k2.2.1, (setO (by omega)).trans k2.2.2⟩, k3, k4, k5.writes hw (by omega)⟩
/-! ### numbers without one -/
/-- The first k numbers but those that are x. -/
def wo (K : Nat → Int) (x : Int) (k : Nat) : List Int := (zL K k).filter (fun y => y != x)
theorem zL_succ (K : Nat → Int) (k : Nat) : zL K (k + 1) = zL K k ++ [K k] := by simp [zL, List.range_succ]
theorem wo_yes {K : Nat → Int} {x : Int} {k : Nat} (h : K k ≠ x) : wo K x (k + 1) = wo K x k ++ zL (fun _ => K k) 1 := by
  unfold wo
  rw [zL_succ, List.filter_append]
  have : (K k != x) = true := by simp [h]
  simp [this, zL]
theorem wo_no {K : Nat → Int} {x : Int} {k : Nat} (h : K k = x) : wo K x (k + 1) = wo K x k := by
  unfold wo
  rw [zL_succ, List.filter_append]
  simp [h]
theorem wo_len (K : Nat → Int) (x : Int) (k : Nat) : (wo K x k).length ≤ k := by
  unfold wo
  have := List.length_filter_le (fun y => y != x) (zL K k)
  rw [zL_len] at this
  exact this
set_option maxHeartbeats 2000000 in
theorem withoutNumber_any (n : Nat) (K : Nat → Int) (x : Int) (a : Option Addr) (cap : Nat) (w : World) (hn : n ≤ 1000) (h : IntsAt w a n K) :
    Calls Try.prog 64 #[.slice a n cap, .int .i64 x] w fun e w' => ∃ v, e = .returned v ∧ Below w.heap.size w w' ∧ w'.ownsRow w.heap.size 2 1 v (wo K x n).length (il (wo K x n)) := by
  have HA : Hid (IntsAt w a n K) := h
  clear h
  go_enter Try.func64, Try.ntmps64
  go_wp2_with fail
  go_loopw [5, 7, 10] (fun v _ i wr => ∃ k : Nat, k ≤ n ∧ i = .int .i64 k ∧ Hid (Below w.heap.size w wr) ∧ Hid (wr.ownsRow w.heap.size 2 1 v (wo K x k).length (il (wo K x k)))) (fun _ _ i _ => n - (intOf i).toNat)
  case atStart => exact ⟨0, by omega, rfl, Below.refl _ _, World.ownsRow_nil _ _ _ _⟩
  case round =>
    obtain ⟨k, hk, rfl, HB, HO⟩ := hrel
    by_cases hlt : k < n
    · have hlt' : (k : Int) < (n : Int) := by omega
      have hk1 : (0 : Int) ≤ (k : Int) := by omega
      rcases HA.out.below HB.out with h | ⟨b, off, rfl, hbl, hc⟩
      · omega
      have hck := hc k hlt
      clear hc
      by_cases hx : K k = x
      · have HO1 : Hid (wr.ownsRow w.heap.size 2 1 u5 (wo K x (k + 1)).length (il (wo K x (k + 1)))) := by rw [wo_no hx]; exact HO
        have hne : (K k != x) = false := by simp [hx]
        clear HO hx
        go_wp2_with fail
        go_roundw
        case rel => exact ⟨k + 1, hlt, by go_num, HB, HO1⟩
        case measure => simp [intOf]; omega
      · have hne : (K k != x) = true := by simp [hx]
        have HX : Hid (K k ≠ x) := hx
        have HLE : Hid ((wo K x k).length + 1 ≤ 100000) := by have := wo_len K x k; show _ ≤ _; omega
        clear hx
        go_wp2_with (at_builtin; refine wpList_appN _ rfl (.tmp 17) (.tmp 19) rfl w.heap.size _ (wo K x k) rfl (own_belowI HO.out (below_new _ _)) _ 1 1 (fun _ => K k) rfl (.inr ⟨wr.heap.size, 0, rfl, by simp, fun i hi => by (obtain rfl : i = 0 := by omega); simp [go_sem]⟩) HLE.out (Nat.le_trans HB.out.size (by simp)) ?_)
        intro v1 w1 ho1 hg1
        have HO1 : Hid (w1.ownsRow w.heap.size 2 1 v1 (wo K x (k + 1)).length (il (wo K x (k + 1)))) := by
          rw [wo_yes HX.out, List.length_append]
          exact ho1
        have HB1 : Hid (Below w.heap.size w w1) := (below_then HB.out (below_new _ _)).grown hg1 (Nat.le_trans HB.out.size (by simp)) (fun q hq => (HO.out.lt q hq).1)
        clear ho1 hg1
        go_wp2_with fail
        go_roundw
        case rel => exact ⟨k + 1, hlt, by go_num, HB1, HO1⟩
        case measure => simp [intOf]; omega
    · have hkn : k = n := by omega
      subst hkn
      go_wp2_with fail
      go_ret
      exact ⟨_, rfl, HB.out, HO.out⟩
end Go.Proofs.Ytbnehgpefjbheaa
