/- Trees in memory: sizes, copies, equal, opened. -/
import Derived.Test.YtbnehgpefjbheaaTna
namespace Go.Proofs.Ytbnehgpefjbheaa
open Go.ChangeShapes Go.WideShapes Go.ChangeAt Go.RowKit Go.Deep Go.Joins
set_option linter.unusedVariables false
set_option maxRecDepth 20000

/-- A tree: its root, its nodes. -/
structure Tr where
  root : Int
  n : Nat
  T : Nat → Nd
structure SmallT (t : Tr) : Prop where
  n : t.n ≤ 1048576
  k : ∀ i, i < t.n → (t.T i).kn ≤ 1048576 ∧ (t.T i).dn ≤ 1048576
  s : smNd t.T t.n ≤ 1048576
theorem smallT_of {t : Tr} (h : 0 ≤ (1048576 : Int) - t.n - smNd t.T t.n) : SmallT t :=
  ⟨by omega, fun i hi => by have := smf_ge (fun i => (t.T i).kn + (t.T i).dn) t.n i hi; unfold smNd at h; omega, by omega⟩
theorem szTree_any (t : Tr) (a : Option Addr) (cap : Nat) (w : World) (hn : t.n ≤ 9223372036854775807) (hL : ∀ i, i < t.n → (t.T i).kn ≤ 9223372036854775807 ∧ (t.T i).dn ≤ 9223372036854775807) (h : NdsAt w a t.n t.T) :
    Calls Try.prog 11 #[.agg #[.int .i64 t.root, .slice a t.n cap], .int .i64 1048576] w fun e w' => Below w.heap.size w w' ∧ ∃ r : Int, e = .returned (.int .i64 r) ∧ (r = -1 ∨ (0 ≤ r ∧ r = 1048576 - t.n - smNd t.T t.n)) := by
  go_enter Try.func11, Try.ntmps11
  go_wp2_with fail
  refine (szNodeS_any t.n t.T a cap 1048576 _ hn hL (by omega) (by omega) (h.below (below_new _ _))).mono ?_
  rintro e w1 ⟨hb1, r, rfl, hr⟩
  have HB1 : Hid (Below w.heap.size w w1) := below_then (below_new _ _) hb1
  clear hb1 hL h
  rcases hr with rfl | ⟨hr0, hr1⟩
  · go_wp2_with fail
    go_ret
    exact ⟨HB1.out, _, rfl, .inl rfl⟩
  · have hr2 : ¬ r < 0 := by omega
    have HR : Hid (r = 1048576 - (t.n : Int) - (smNd t.T t.n : Int)) := hr1
    clear hr1
    go_wp2_with fail
    go_ret
    exact ⟨HB1.out, _, rfl, .inr ⟨hr0, HR.out⟩⟩
set_option maxHeartbeats 1000000 in
theorem toTree_any (t : Tr) (a : Option Addr) (cap : Nat) (w : World) (hs : SmallT t) (h : NdsAt w a t.n t.T) :
    Calls Try.prog 13 #[.agg #[.int .i64 t.root, .slice a t.n cap]] w fun e w' =>
      ∃ B, e = .returned (.agg #[.int .i64 t.root, .slice (some ⟨B, 0, none⟩) t.n t.n]) ∧ Below w.heap.size w w' ∧ OwnNd w' w.heap.size w'.heap.size (some ⟨B, 0, none⟩) t.n t.T := by
  go_enter Try.func13, Try.ntmps13
  go_wp2_with fail
  have hb0 : ∀ o1 o2 o3, Below w.heap.size w (((w.alloc o1).alloc o2).alloc o3) := fun o1 o2 o3 => (((Below.refl _ _).alloc (Nat.le_refl _) _).alloc (by simp) _).alloc (by simp; omega) _
  refine (toNodeS_any t.n t.T a cap _ hs.n hs.k (h.below (hb0 _ _ _))).mono ?_
  rintro e w1 ⟨rfl, hb1, hr1⟩
  obtain ⟨hc, hf⟩ := bcell2 hb1
  have hz : w.heap.size + 2 < w1.heap.size := by have := hb1.size; simp at this; omega
  have HBF : Hid (Below w.heap.size w w1) := below_then (hb0 _ _ _) hb1
  go_wp2_with fail
  refine bodyPost_ret (v := .agg #[.int .i64 t.root, .slice (some ⟨w.heap.size + 3, 0, none⟩) t.n t.n]) (by simp [results, Try.results13, go_sem, hc]) rfl ⟨_, rfl, ?_, ?_⟩
  · repeat (first | with_reducible exact HBF.out | with_reducible refine Below.setCell ?_ (by first | omega | (simp <;> omega)) _)
  · have e3 : ∀ o1 o2 o3 : Obj, (((w.alloc o1).alloc o2).alloc o3).heap.size = w.heap.size + 3 := fun _ _ _ => by simp
    rw [e3] at hr1
    have hw : ∀ w3, Writes w.heap.size (w.heap.size + 3) w1 w3 → w3.heap.size = w1.heap.size → OwnNd w3 w.heap.size w3.heap.size (some ⟨w.heap.size + 3, 0, none⟩) t.n t.T := fun w3 h e =>
      (hr1.writes h (.inr (Nat.le_refl _))).wide (by omega) (by omega) (Nat.le_refl _)
    refine hw _ ?_ (by simp [World.setCell])
    repeat (first | with_reducible exact Writes.refl _ _ _ | with_reducible refine Writes.setCell ?_ (by first | omega | (simp <;> omega)) (by first | omega | (simp <;> omega)) _)
/-! ### equal -/
theorem eqNode_same (t : Nd) (ak ad ak' ad' : Option Addr) (ck cd ck' cd' : Nat) (w : World) (hk : t.kn ≤ 1048576) (hd : t.dn ≤ 1048576) (h1 : IntsAt w ak t.kn t.K) (h2 : IntsAt w ad t.dn t.D) (h3 : IntsAt w ak' t.kn t.K) (h4 : IntsAt w ad' t.dn t.D) :
    Calls Try.prog 80 #[.agg #[.bool t.lf, .slice ak t.kn ck, .slice ad t.dn cd], .agg #[.bool t.lf, .slice ak' t.kn ck', .slice ad' t.dn cd']] w fun e w' => e = .returned (.bool true) ∧ Below w.heap.size w w' := by
  have H1 : Hid (IntsAt w ak t.kn t.K) := h1
  have H2 : Hid (IntsAt w ad t.dn t.D) := h2
  have H3 : Hid (IntsAt w ak' t.kn t.K) := h3
  have H4 : Hid (IntsAt w ad' t.dn t.D) := h4
  have hne : (t.lf != t.lf) = false := by simp
  clear h1 h2 h3 h4
  have hb0 : ∀ o1 o2, Below w.heap.size w ((w.alloc o1).alloc o2) := fun o1 o2 => (((Below.refl _ _).alloc (Nat.le_refl _) _).alloc (by simp) _)
  go_enter Try.func80, Try.ntmps80
  go_wp2_with fail
  refine (eqInt64S_any t.kn t.K ak ak' ck ck' _ hk (H1.out.below (hb0 _ _)) (H3.out.below (hb0 _ _))).mono ?_
  rintro e w1 ⟨rfl, hb1⟩
  obtain ⟨hc, hf⟩ := bcell2 hb1
  have q0 : w1.cell? ⟨w.heap.size, 2, none⟩ = some (.slice ad t.dn cd) := by rw [hc _ _ (by simp <;> omega)]; simp [go_sem]
  have q1 : w1.cell? ⟨w.heap.size + 1, 2, none⟩ = some (.slice ad' t.dn cd') := by rw [hc _ _ (by simp <;> omega)]; simp [go_sem]
  have HB : Hid (Below w.heap.size w w1) := below_then (hb0 _ _) hb1
  clear hc hf hb1 hb0
  go_wp2_with fail
  refine (eqInt64S_any t.dn t.D ad ad' cd cd' _ hd (H2.out.below HB.out) (H4.out.below HB.out)).mono ?_
  rintro e w2 ⟨rfl, hb2⟩
  go_wp2_with fail
  go_ret
  exact ⟨rfl, below_then HB.out hb2⟩
set_option maxHeartbeats 2000000 in
theorem eqNodeS_any (n : Nat) (T : Nat → Nd) (a a' : Option Addr) (cap cap' : Nat) (w : World) (hn : n ≤ 1048576) (hL : ∀ i, i < n → (T i).kn ≤ 1048576 ∧ (T i).dn ≤ 1048576) (h : NdsAt w a n T) (h' : NdsAt w a' n T) :
    Calls Try.prog 50 #[.slice a n cap, .slice a' n cap'] w fun e w' => e = .returned (.bool true) ∧ Below w.heap.size w w' := by
  have HL : Hid (∀ i, i < n → (T i).kn ≤ 1048576 ∧ (T i).dn ≤ 1048576) := hL
  have HA : Hid (NdsAt w a n T) := h
  have HA' : Hid (NdsAt w a' n T) := h'
  have hne : ((n : Int) != (n : Int)) = false := by simp
  clear hL h h'
  go_enter Try.func50, Try.ntmps50
  go_wp2_with fail
  go_loopw [5] (fun i wr => ∃ k : Nat, k ≤ n ∧ i = .int .i64 k ∧ Hid (Below w.heap.size w wr)) (fun i _ => n - (intOf i).toNat)
  case atStart => exact ⟨0, Nat.zero_le _, rfl, Below.refl _ _⟩
  case round =>
    obtain ⟨k, hk, rfl, HB⟩ := hrel
    by_cases hlt : k < n
    · have hlt' : (k : Int) < (n : Int) := by omega
      have hk0 : (0 : Int) ≤ (k : Int) := by omega
      rcases HA.out.below HB.out with h | ⟨b, off, rfl, hl, hc⟩
      · omega
      rcases HA'.out.below HB.out with h | ⟨b', off', rfl, hl', hc'⟩
      · omega
      obtain ⟨ak, ck, ad, cd, hC, hy1, hy2, -⟩ := hc k hlt
      obtain ⟨ak', ck', ad', cd', hC', hy3, hy4, -⟩ := hc' k hlt
      obtain ⟨q0, q1, q2⟩ := hC
      obtain ⟨y0, y1, y2⟩ := hC'
      have H1 : Hid (IntsAt wr ak (T k).kn (T k).K) := hy1
      have H2 : Hid (IntsAt wr ad (T k).dn (T k).D) := hy2
      have H3 : Hid (IntsAt wr ak' (T k).kn (T k).K) := hy3
      have H4 : Hid (IntsAt wr ad' (T k).dn (T k).D) := hy4
      have HLk : Hid ((T k).kn ≤ 1048576 ∧ (T k).dn ≤ 1048576) := HL.out k hlt
      clear hc hc' hy1 hy2 hy3 hy4
      generalize T k = t at *
      go_wp2_with fail
      have hb0 : Below wr.heap.size wr wr.drew := (Below.refl _ _).drew
      go_region_held3 (fun w' => Below wr.heap.size wr w' ∧ w'.cell? ⟨b, off + k * 3, none⟩ = some (.bool t.lf) ∧ w'.cell? ⟨b, off + k * 3 + 1, none⟩ = some (.slice ak t.kn ck) ∧ w'.cell? ⟨b, off + k * 3 + 2, none⟩ = some (.slice ad t.dn cd) ∧ w'.cell? ⟨b', off' + k * 3, none⟩ = some (.bool t.lf) ∧ w'.cell? ⟨b', off' + k * 3 + 1, none⟩ = some (.slice ak' t.kn ck') ∧ w'.cell? ⟨b', off' + k * 3 + 2, none⟩ = some (.slice ad' t.dn cd')) (go_keep)
        (first | (go_at_call 80; refine (eqNode_same t ak ad ak' ad' ck cd ck' cd' _ HLk.out.1 HLk.out.2 (H1.out.below (by simp [*])) (H2.out.below (by simp [*])) (H3.out.below (by simp [*])) (H4.out.below (by simp [*]))).mono ?_; rintro e w1 ⟨rfl, hbq⟩; have hU := below_then (w := wr) (by simp [*]) hbq; have u0 := cell_below (B := b) (o := off + k * 3) (v := .bool t.lf) (by simp [*]) hbq; have u1 := cell_below (B := b) (o := off + k * 3 + 1) (v := .slice ak t.kn ck) (by simp [*]) hbq; have u2 := cell_below (B := b) (o := off + k * 3 + 2) (v := .slice ad t.dn cd) (by simp [*]) hbq; have u3 := cell_below (B := b') (o := off' + k * 3) (v := .bool t.lf) (by simp [*]) hbq; have u4 := cell_below (B := b') (o := off' + k * 3 + 1) (v := .slice ak' t.kn ck') (by simp [*]) hbq; have u5 := cell_below (B := b') (o := off' + k * 3 + 2) (v := .slice ad' t.dn cd') (by simp [*]) hbq))
      go_wp2_with fail
      go_roundw
      case rel => exact ⟨k + 1, hlt, by go_num, below_then HB.out (by assumption)⟩
      case measure => simp [intOf]; omega
    · have hkn : k = n := by omega
      have hnl : ¬ ((k : Int) < (n : Int)) := by omega
      go_wp2_with fail
      go_ret
      exact ⟨rfl, HB.out⟩
theorem eqTree_same (t : Tr) (a a' : Option Addr) (cap cap' : Nat) (w : World) (hs : SmallT t) (h : NdsAt w a t.n t.T) (h' : NdsAt w a' t.n t.T) :
    Calls Try.prog 15 #[.agg #[.int .i64 t.root, .slice a t.n cap], .agg #[.int .i64 t.root, .slice a' t.n cap']] w fun e w' => e = .returned (.bool true) ∧ Below w.heap.size w w' := by
  have HA : Hid (NdsAt w a t.n t.T) := h
  have HA' : Hid (NdsAt w a' t.n t.T) := h'
  clear h h'
  have hb0 : ∀ o1 o2, Below w.heap.size w ((w.alloc o1).alloc o2) := fun o1 o2 => (((Below.refl _ _).alloc (Nat.le_refl _) _).alloc (by simp) _)
  have hne : (t.root != t.root) = false := by simp
  go_enter Try.func15, Try.ntmps15
  go_wp2_with fail
  refine (eqNodeS_any t.n t.T a a' cap cap' _ hs.n hs.k (HA.out.below (hb0 _ _)) (HA'.out.below (hb0 _ _))).mono ?_
  rintro e w1 ⟨rfl, hb1⟩
  have HB : Hid (Below w.heap.size w w1) := below_then (hb0 _ _) hb1
  clear hb1
  go_wp2_with fail
  go_ret
  exact ⟨rfl, HB.out⟩
/-! ### opened -/
theorem cellsNode : Try.prog.cellsOf 90 = 3 := by kernel_rfl
theorem cellsBl : Try.prog.cellsOf 4 = 1 := by kernel_rfl
theorem cellsIs : Try.prog.cellsOf 39 = 1 := by kernel_rfl
theorem openNds {H : Type} {enc : TypeId × Value → H} {W : World} {fuel : Nat} {cs : List Value} {x : DataW H × List MemPlace}
    (h : DataW.trod enc Try.prog W 0 (fun _ => true) true fuel 22 cs = some x) :
    ∃ (a : Option Addr) (n cap : Nat) (T : Nat → Nd), cs = [.slice a n cap] ∧ n ≤ 9223372036854775807 ∧ (∀ i, i < n → (T i).kn ≤ 9223372036854775807 ∧ (T i).dn ≤ 9223372036854775807) ∧ NdsAt W a n T := by
  rcases open_slice Try.underlying22 h with ⟨rfl, _⟩ | ⟨a, l, c, m, nn, D, Pl, rfl, _, hl, hm, hmm, _, hx⟩
  · exact ⟨none, 0, 0, fun _ => zNd, rfl, by omega, fun i hi => by omega, .inl rfl⟩
  · have hmc : m = c := by simpa using hmm
    unfold maxLen at hm
    rw [cellsNode] at hx
    have each : ∀ i, i < l → ∃ q : Nd × (Option Addr × Nat) × (Option Addr × Nat), W.cell? (a.add (i * 3)) = some (.bool q.1.lf) ∧ W.cell? (a.add (i * 3 + 1)) = some (.slice q.2.1.1 q.1.kn q.2.1.2) ∧ W.cell? (a.add (i * 3 + 2)) = some (.slice q.2.2.1 q.1.dn q.2.2.2) ∧ (q.1.kn ≤ 9223372036854775807 ∧ q.1.dn ≤ 9223372036854775807) ∧ IntsAt W q.2.1.1 q.1.kn q.1.K ∧ IntsAt W q.2.2.1 q.1.dn q.1.D ∧ q.1.kn ≤ q.2.1.2 ∧ q.1.dn ≤ q.2.2.2 := fun i hi => by
      obtain ⟨cs', h1, h2⟩ := hx i (by omega)
      obtain ⟨_, hlen, hcell⟩ := World.cells?_some h1
      obtain ⟨xs, k, hk, hxy, _, hxl, hf⟩ := DataW.trod_struct Try.underlying90 h2
      match xs, hxl, cs', hlen with
      | [y0, y1, y2], _, [v0, v1, v2], _ =>
        have g0 := hf 0 _ rfl
        have g1 := hf 1 _ rfl
        have g2 := hf 2 _ rfl
        simp [cellsBl, cellsIs] at g0 g1 g2
        have e0 := hcell 0 (by omega)
        have e1 := hcell 1 (by omega)
        have e2 := hcell 2 (by omega)
        rw [add_add] at e0 e1 e2
        obtain ⟨z0, f0, _⟩ := DataW.trod_bool Try.underlying4 g0
        obtain ⟨a1, n1, c1, z1, f1, k1, k2, k3⟩ := openIntS g1
        obtain ⟨a2, n2, c2, z2, f2, j1, j2, j3⟩ := openIntS g2
        simp at f0 f1 f2
        subst f0 f1 f2
        exact ⟨(⟨z0, n1, z1, n2, z2⟩, (a1, c1), (a2, c2)), by simpa using e0, by simpa using e1, by simpa using e2, ⟨k2, j2⟩, k3, j3, k1, j1⟩
    have nonE : Inhabited Nd := ⟨zNd⟩
    obtain ⟨q, hq⟩ := choose_lt each
    refine ⟨some a, l, c, fun i => (q i).1, rfl, by omega, fun i hi => (hq i hi).2.2.2.1, ?_⟩
    by_cases hz0 : l = 0
    · exact .inl hz0
    · obtain ⟨b, off, spot⟩ := a
      have hc0 := (hq 0 (by omega)).1
      have hspot : spot = none := by simpa [Addr.add] using World.cell?_spot hc0
      subst hspot
      refine .inr ⟨b, off, rfl, Go.block_lt_of_cell hc0, fun i hi => ?_⟩
      obtain ⟨k0, k1, k2, _, kb, kc, kd, ke⟩ := hq i hi
      rw [add_plain] at k0 k1 k2
      exact ⟨(q i).2.1.1, (q i).2.1.2, (q i).2.2.1, (q i).2.2.2, ⟨k0, by rw [Nat.add_assoc]; exact k1, by rw [Nat.add_assoc]; exact k2⟩, kb, kc, kd, ke⟩
theorem cellsTree : Try.prog.cellsOf 24 = 2 := by kernel_rfl
theorem openTree {H : Type} {enc : TypeId × Value → H} {W : World} {r : Reach} {b0 : Nat} {v : Value} {d : DataW H} {p : List MemPlace}
    (hv : Value.okWide Try.prog W r b0 24 v) (h : DataW.Trod enc Try.prog W 0 (fun _ => true) true 24 v d p) :
    ∃ (t : Tr) (a : Option Addr) (cap : Nat), v = .agg #[.int .i64 t.root, .slice a t.n cap] ∧ t.n ≤ 9223372036854775807 ∧ (∀ i, i < t.n → (t.T i).kn ≤ 9223372036854775807 ∧ (t.T i).dn ≤ 9223372036854775807) ∧ NdsAt W a t.n t.T := by
  obtain ⟨c0, c1, y0, y1, m, rfl, rfl, rfl, h0, h1⟩ := open_agg2 Try.underlying24 (by kernel_rfl) cellsTree hv h
  obtain ⟨x0, e0, _, _⟩ := DataW.trod_int Try.underlying2 h0
  obtain ⟨a, n, cap, TT, e1, k1, k2, k3⟩ := openNds h1
  simp at e0 e1
  subst e0 e1
  exact ⟨⟨x0, n, TT⟩, a, cap, rfl, k1, k2, k3⟩
end Go.Proofs.Ytbnehgpefjbheaa
