/- impl.hangsTogether: the closure that calls itself. -/
import Derived.Test.YtbnehgpefjbheaaTne
namespace Go.Proofs.Ytbnehgpefjbheaa
open Go.RowKit Go.Deep
set_option linter.unusedVariables false
set_option maxRecDepth 20000

theorem kidBounds_any (t : Nd) (k : Nat) (lo hi : Int) (b o : Nat) (ak ad : Option Addr) (ck cd : Nat) (w : World) (hk : t.kn ≤ 3) (hkk : k ≤ t.kn) (h : CNd w b o t ak ck ad cd) (hy : IntsAt w ak t.kn t.K) :
    Calls Try.prog 79 #[.pointer (some ⟨b, o, none⟩), .int .i64 k, .int .i64 lo, .int .i64 hi] w fun e w' => e = .returned (.tuple #[.int .i64 (klo t lo k), .int .i64 (khi t hi k)]) ∧ w' = w := by
  obtain ⟨q0, q1, q2⟩ := h
  rcases Nat.eq_zero_or_pos k with h0 | hpos
  · subst h0
    have e1 : klo t lo 0 = lo := rfl
    by_cases hlt : 0 < t.kn
    · have e2 : khi t hi 0 = t.K 0 := if_pos hlt
      rcases hy with h | ⟨b1, o1, rfl, hl1, hc1⟩
      · omega
      have hx := hc1 0 hlt
      have hlt' : (0 : Int) < (t.kn : Int) := by omega
      rw [Nat.add_zero] at hx
      rw [e1, e2]
      clear e1 e2 hc1
      generalize t.K 0 = tk at *
      go_enter Try.func79, Try.ntmps79
      go_wp2_with fail
      go_ret2
      exact ⟨rfl, rfl⟩
    · have e2 : khi t hi 0 = hi := if_neg hlt
      have hnl : ¬ ((0 : Int) < (t.kn : Int)) := by omega
      rw [e1, e2]
      clear e1 e2 hy
      go_enter Try.func79, Try.ntmps79
      go_wp2_with fail
      go_ret2
      exact ⟨rfl, rfl⟩
  · obtain ⟨p, rfl⟩ : ∃ p, k = p + 1 := ⟨k - 1, by omega⟩
    have e1 : klo t lo (p + 1) = t.K p := by simp [klo]
    rcases hy with h | ⟨b1, o1, rfl, hl1, hc1⟩
    · omega
    have hx := hc1 p (by omega)
    have hj1 : (p : Int) < (t.kn : Int) := by omega
    have hj2 : (0 : Int) ≤ (p : Int) := by omega
    have hj3 : (0 : Int) < (p : Int) + 1 := by omega
    have hwj : IntKind.i64.wrap (p : Int) = (p : Int) := by rw [IntKind.wrap_i64]; omega
    by_cases hlt : p + 1 < t.kn
    · have e2 : khi t hi (p + 1) = t.K (p + 1) := if_pos hlt
      have hx2 := hc1 (p + 1) hlt
      have hj4 : (p : Int) + 1 < (t.kn : Int) := by omega
      have hj5 : (0 : Int) ≤ (p : Int) + 1 := by omega
      rw [e1, e2]
      clear e1 e2 hc1
      generalize t.K (p + 1) = tk at *
      generalize t.K p = tp at *
      go_enter Try.func79, Try.ntmps79
      go_wp2_with fail
      go_ret2
      exact ⟨rfl, rfl⟩
    · have e2 : khi t hi (p + 1) = hi := if_neg hlt
      have hj4 : ¬ ((p : Int) + 1 < (t.kn : Int)) := by omega
      rw [e1, e2]
      clear e1 e2 hc1
      generalize t.K p = tp at *
      go_enter Try.func79, Try.ntmps79
      go_wp2_with fail
      go_ret2
      exact ⟨rfl, rfl⟩
/-- What the closure finds in memory: the variables that it has caught lie from block N on, where N blocks were there before. -/
structure Ht (W0 : World) (tb n : Nat) (w : World) (s : St) : Prop where
  below : Below W0.heap.size W0 w
  size : W0.heap.size + 6 ≤ w.heap.size
  t : w.cell? ⟨W0.heap.size, 0, none⟩ = some (.pointer (some ⟨tb, 0, none⟩))
  row : ∀ i, i < n → w.cell? ⟨W0.heap.size + 1, i, none⟩ = some (.bool (s.met i))
  rowf : ∀ i, w.frozen? ⟨W0.heap.size + 1, i, none⟩ = false
  met : w.cell? ⟨W0.heap.size + 2, 0, none⟩ = some (.slice (some ⟨W0.heap.size + 1, 0, none⟩) n n)
  cnt : w.cell? ⟨W0.heap.size + 3, 0, none⟩ = some (.int .i64 s.cnt)
  cntf : ∀ i, w.frozen? ⟨W0.heap.size + 3, i, none⟩ = false
  ld : w.cell? ⟨W0.heap.size + 4, 0, none⟩ = some (.int .i64 s.ld)
  ldf : ∀ i, w.frozen? ⟨W0.heap.size + 4, i, none⟩ = false
  fn : w.cell? ⟨W0.heap.size + 5, 0, none⟩ = some (.func (.func 78) #[] #[.pointer (some ⟨W0.heap.size + 2, 0, none⟩), .pointer (some ⟨W0.heap.size + 3, 0, none⟩), .pointer (some ⟨W0.heap.size, 0, none⟩), .pointer (some ⟨W0.heap.size + 4, 0, none⟩), .pointer (some ⟨W0.heap.size + 5, 0, none⟩)])
theorem setFar {w : World} {b b' o o' : Nat} {v : Value} (h : b' ≠ b) : (w.setCell ⟨b, o, none⟩ v).cell? ⟨b', o', none⟩ = w.cell? ⟨b', o', none⟩ := World.cell?_setCell_far _ _ _ _ (by dsimp only; omega)
theorem Ht.go {W0 w : World} {tb n p : Nat} {s : St} (h : Ht W0 tb n w s) (hp : p < n) : Ht W0 tb n ((w.setCell ⟨W0.heap.size + 1, p, none⟩ (.bool true)).setCell ⟨W0.heap.size + 3, 0, none⟩ (.int .i64 ((s.cnt : Int) + 1))) (met1 s p) := by
  refine ⟨(h.below.setCell (p := ⟨_, _, none⟩) (by show W0.heap.size ≤ W0.heap.size + 1; omega) _).setCell (p := ⟨_, _, none⟩) (by show W0.heap.size ≤ W0.heap.size + 3; omega) _, by have := h.size; simp [World.setCell]; omega, ?_, fun i hi => ?_, fun i => by rw [World.frozen?_setCell, World.frozen?_setCell]; exact h.rowf i, ?_, ?_, fun i => by rw [World.frozen?_setCell, World.frozen?_setCell]; exact h.cntf i, ?_, fun i => by rw [World.frozen?_setCell, World.frozen?_setCell]; exact h.ldf i, ?_⟩
  · rw [setFar (by omega), setFar (by omega)]; exact h.t
  · rw [setFar (by omega)]
    by_cases e : i = p
    · subst e
      rw [setS (h.row i hi)]
      simp [met1, upf_eq]
    · rw [setO (by omega), h.row i hi]
      simp [met1, upf_ne _ _ e]
  · rw [setFar (by omega), setFar (by omega)]; exact h.met
  · rw [setS (by rw [setFar (by omega)]; exact h.cnt)]
    simp [met1]
  · rw [setFar (by omega), setFar (by omega)]; exact h.ld
  · rw [setFar (by omega), setFar (by omega)]; exact h.fn
theorem Ht.leaf {W0 w : World} {tb n : Nat} {s : St} (h : Ht W0 tb n w s) (d : Int) : Ht W0 tb n (w.setCell ⟨W0.heap.size + 4, 0, none⟩ (.int .i64 d)) ⟨s.met, s.cnt, d⟩ := by
  refine ⟨h.below.setCell (p := ⟨_, _, none⟩) (by show W0.heap.size ≤ W0.heap.size + 4; omega) _, by have := h.size; simp [World.setCell]; omega, ?_, fun i hi => ?_, fun i => by rw [World.frozen?_setCell]; exact h.rowf i, ?_, ?_, fun i => by rw [World.frozen?_setCell]; exact h.cntf i, ?_, fun i => by rw [World.frozen?_setCell]; exact h.ldf i, ?_⟩
  · rw [setFar (by omega)]; exact h.t
  · rw [setFar (by omega)]; exact h.row i hi
  · rw [setFar (by omega)]; exact h.met
  · rw [setFar (by omega)]; exact h.cnt
  · exact setS h.ld
  · rw [setFar (by omega)]; exact h.fn
/-- What is left behind a fault. -/
structure Hn (W0 : World) (tb : Nat) (w : World) : Prop where
  below : Below W0.heap.size W0 w
  t : w.cell? ⟨W0.heap.size, 0, none⟩ = some (.pointer (some ⟨tb, 0, none⟩))
  fn : w.cell? ⟨W0.heap.size + 5, 0, none⟩ = some (.func (.func 78) #[] #[.pointer (some ⟨W0.heap.size + 2, 0, none⟩), .pointer (some ⟨W0.heap.size + 3, 0, none⟩), .pointer (some ⟨W0.heap.size, 0, none⟩), .pointer (some ⟨W0.heap.size + 4, 0, none⟩), .pointer (some ⟨W0.heap.size + 5, 0, none⟩)])
theorem Ht.weak {W0 w : World} {tb n : Nat} {s : St} (h : Ht W0 tb n w s) : Hn W0 tb w := ⟨h.below, h.t, h.fn⟩
/-- What the closure answers. -/
def WkI (W0 : World) (tb n : Nat) (r : Option St) (e : Ending) (w' : World) : Prop := match r with
  | none => e = .returned (.bool false) ∧ Hn W0 tb w'
  | some s' => e = .returned (.bool true) ∧ Ht W0 tb n w' s'
theorem WkI.no {W0 w' : World} {tb n : Nat} {r : Option St} (h : r = none) (hb : Hn W0 tb w') : WkI W0 tb n r (.returned (.bool false)) w' := by
  rw [h]; exact ⟨rfl, hb⟩
theorem WkI.yes {W0 w' : World} {tb n : Nat} {r : Option St} {s' : St} (h : r = some s') (hb : Ht W0 tb n w' s') : WkI W0 tb n r (.returned (.bool true)) w' := by
  rw [h]; exact ⟨rfl, hb⟩
set_option maxHeartbeats 8000000 in
theorem walkI (W0 : World) (tb n ca : Nat) (a : Option Addr) (T : Nat → Nd) (hn : n ≤ 60) (hG : GoodN T n) (htb : W0.cell? ⟨tb, 1, none⟩ = some (.slice a n ca)) (hA : NdsAt W0 a n T) :
    ∀ f (s : St) (p : Nat) (lo hi d : Int) (w : World), Ht W0 tb n w s → p < n → s.cnt + unm s.met n = n → unm s.met n < f → 1 ≤ d → d + f ≤ 1000 →
    Calls Try.prog 78 #[.int .i64 p, .int .i64 lo, .int .i64 hi, .int .i64 d, .pointer (some ⟨W0.heap.size + 2, 0, none⟩), .pointer (some ⟨W0.heap.size + 3, 0, none⟩), .pointer (some ⟨W0.heap.size, 0, none⟩), .pointer (some ⟨W0.heap.size + 4, 0, none⟩), .pointer (some ⟨W0.heap.size + 5, 0, none⟩)] w (WkI W0 tb n (vis T f s p lo hi d)) := by
  have HG : Hid (GoodN T n) := hG
  have HA : Hid (NdsAt W0 a n T) := hA
  have HTB : Hid (W0.cell? ⟨tb, 1, none⟩ = some (.slice a n ca)) := htb
  clear hG hA htb
  intro f
  induction f with
  | zero => intro s p lo hi d w _ _ _ h; omega
  | succ f ih =>
    intro s p lo hi d w hH hp hinv hu hd1 hd2
    have IH : Hid (∀ (s : St) (p : Nat) (lo hi d : Int) (w : World), Ht W0 tb n w s → p < n → s.cnt + unm s.met n = n → unm s.met n < f → 1 ≤ d → d + f ≤ 1000 → Calls Try.prog 78 #[.int .i64 p, .int .i64 lo, .int .i64 hi, .int .i64 d, .pointer (some ⟨W0.heap.size + 2, 0, none⟩), .pointer (some ⟨W0.heap.size + 3, 0, none⟩), .pointer (some ⟨W0.heap.size, 0, none⟩), .pointer (some ⟨W0.heap.size + 4, 0, none⟩), .pointer (some ⟨W0.heap.size + 5, 0, none⟩)] w (WkI W0 tb n (vis T f s p lo hi d))) := ih
    clear ih
    have HH : Hid (Ht W0 tb n w s) := hH
    have hpn : (p : Int) < (n : Int) := by omega
    have hp0 : (0 : Int) ≤ (p : Int) := by omega
    have m0 := HH.out.met
    have m1 := HH.out.row p hp
    clear hH
    cases hm : s.met p
    case true =>
      have HV : Hid (vis T (f + 1) s p lo hi d = none) := by
        show vis T (f + 1) s p lo hi d = none
        unfold vis; rw [if_pos hm]
      rw [hm] at m1
      clear hm
      go_enter Try.func78, Try.ntmps78
      go_wp2_with fail
      go_ret
      exact WkI.no HV.out HH.out.weak
    case false =>
      have HV0 : Hid (vis T (f + 1) s p lo hi d = if kyB (T p).K lo hi (T p).kn = false then none else if (T p).lf = true then (if s.ld = 0 ∨ s.ld = d then some ⟨upf s.met p true, s.cnt + 1, d⟩ else none) else kdl (fun s' q l h => vis T f s' q l h (d + 1)) (T p) lo hi (T p).dn (met1 s p)) := by
        show vis T (f + 1) s p lo hi d = _
        conv => lhs; unfold vis
        rw [if_neg (by rw [hm]; simp)]
      have hu1 := unm_upd hm n hp
      rw [hm] at m1
      clear hm
      have hcw : IntKind.i64.wrap ((s.cnt : Int) + 1) = (s.cnt : Int) + 1 := by rw [IntKind.wrap_i64]; omega
      have c0 := HH.out.cnt
      have cf := HH.out.cntf
      have rf := HH.out.rowf
      go_enter Try.func78, Try.ntmps78
      go_upto_region 5 with fail
      obtain ⟨W1, hW1⟩ : ∃ y, y = (w.setCell ⟨W0.heap.size + 1, p, none⟩ (.bool true)).setCell ⟨W0.heap.size + 3, 0, none⟩ (.int .i64 ((s.cnt : Int) + 1)) := ⟨_, rfl⟩
      have HH1 : Hid (Ht W0 tb n W1 (met1 s p)) := by rw [hW1]; exact HH.out.go hp
      rw [← hW1]
      clear hW1 m0 m1 c0 cf rf HH
      have t0 := HH1.out.t
      have t1 := cell_below HTB.out HH1.out.below
      have l0 : W1.cell? ⟨W0.heap.size + 4, 0, none⟩ = some (.int .i64 s.ld) := HH1.out.ld
      have lf := HH1.out.ldf
      have hcp := (HG.out p hp).1
      obtain ⟨hkn3, hdn4⟩ := cntB_le hcp
      rcases HA.out with h | ⟨b, off, rfl, hbl, hc⟩
      · omega
      obtain ⟨ak, ck, ad, cd, hC0, hy, hz, -⟩ := hc p hp
      have HC0 : Hid (CNd W0 b (off + p * 3) (T p) ak ck ad cd) := hC0
      have HY0 : Hid (IntsAt W0 ak (T p).kn (T p).K) := hy
      have HZ0 : Hid (IntsAt W0 ad (T p).dn (T p).D) := hz
      have hC := hC0.block (HH1.out.below.block _ hbl)
      have HY : Hid (IntsAt W1 ak (T p).kn (T p).K) := hy.below HH1.out.below
      have HCP : Hid (cntB (T p) = true) := hcp
      have HDB : Hid (∀ j, j < (T p).dn → 0 ≤ (T p).D j ∧ (T p).D j < n) := (HG.out p hp).2
      obtain ⟨q0, q1, q2⟩ := hC
      clear hc hy hz hcp hC0
      generalize T p = t at *
      go_wp2_with fail
      go_loop [41] (fun i => ∃ k : Nat, k ≤ t.kn ∧ i = .int .i64 k ∧ Hid (kyB t.K lo hi k = true)) (fun i => t.kn - (intOf i).toNat)
      case atStart => exact ⟨0, Nat.zero_le _, rfl, rfl⟩
      case round =>
        obtain ⟨k, hk, rfl, HK⟩ := hrel
        by_cases hlt : k < t.kn
        · have hlt' : (k : Int) < (t.kn : Int) := by omega
          have hk0' : (0 : Int) ≤ (k : Int) := by omega
          rcases HY.out with h | ⟨b1, o1, rfl, hl1, hc1⟩
          · omega
          have hx := hc1 k hlt
          clear hc1
          by_cases h1 : lo ≤ t.K k
          · by_cases h2 : t.K k < hi
            · have HK2 : Hid (kyB t.K lo hi (k + 1) = true) := kyB_step HK.out h1 h2
              have d1 : ¬ (t.K k < lo) := by omega
              have d2 : ¬ (hi ≤ t.K k) := by omega
              generalize t.K k = tk at *
              go_wp2_with fail
              go_round
              case rel => exact ⟨k + 1, hlt, by go_num, HK2⟩
              case measure => simp [intOf]; omega
            · have HV : Hid (vis T (f + 1) s p lo hi d = none) := HV0.out.trans (if_pos (kyB_false hlt (fun x => h2 x.2)))
              have d1 : ¬ (t.K k < lo) := by omega
              have d2 : hi ≤ t.K k := by omega
              generalize t.K k = tk at *
              go_wp2_with fail
              go_ret
              exact WkI.no HV.out HH1.out.weak
          · have HV : Hid (vis T (f + 1) s p lo hi d = none) := HV0.out.trans (if_pos (kyB_false hlt (fun x => h1 x.1)))
            have d1 : t.K k < lo := by omega
            generalize t.K k = tk at *
            go_wp2_with fail
            go_ret
            exact WkI.no HV.out HH1.out.weak
        · have hnl : ¬ ((k : Int) < (t.kn : Int)) := by omega
          have hkn : k = t.kn := by omega
          subst hkn
          have HV1 : Hid (vis T (f + 1) s p lo hi d = if t.lf = true then (if s.ld = 0 ∨ s.ld = d then some ⟨upf s.met p true, s.cnt + 1, d⟩ else none) else kdl (fun s' q l h => vis T f s' q l h (d + 1)) t lo hi t.dn (met1 s p)) := HV0.out.trans (if_neg (by rw [HK.out]; simp))
          clear HV0 HK
          cases hlf : t.lf
          case true =>
            rw [hlf] at q0
            by_cases hz0 : s.ld = 0
            · have HV : Hid (vis T (f + 1) s p lo hi d = some ⟨upf s.met p true, s.cnt + 1, d⟩) := by
                show vis T (f + 1) s p lo hi d = _
                rw [HV1.out, if_pos hlf, if_pos (.inl hz0)]
              rw [hz0] at l0
              clear HV1 hz0
              go_wp2_with fail
              go_ret
              refine WkI.yes HV.out ?_
              exact HH1.out.leaf d
            · have hb0 : (s.ld == 0) = false := by simp [hz0]
              by_cases hzd : s.ld = d
              · have HV : Hid (vis T (f + 1) s p lo hi d = some ⟨upf s.met p true, s.cnt + 1, d⟩) := by
                  show vis T (f + 1) s p lo hi d = _
                  rw [HV1.out, if_pos hlf, if_pos (.inr hzd)]
                have HH2 : Hid (Ht W0 tb n W1 ⟨upf s.met p true, s.cnt + 1, d⟩) := by
                  have h := HH1.out
                  unfold met1 at h
                  rw [hzd] at h
                  exact h
                rw [hzd] at l0 hb0
                clear HV1 hz0 hzd
                go_wp2_with fail
                go_ret
                exact WkI.yes HV.out HH2.out
              · have HV : Hid (vis T (f + 1) s p lo hi d = none) := by
                  show vis T (f + 1) s p lo hi d = _
                  rw [HV1.out, if_pos hlf, if_neg (fun x => x.elim hz0 hzd)]
                have hne : (d == s.ld) = false := by simp; omega
                clear HV1
                generalize s.ld = sl at *
                go_wp2_with fail
                go_ret
                exact WkI.no HV.out HH1.out.weak
          case false =>
            rw [hlf] at q0
            have HV : Hid (vis T (f + 1) s p lo hi d = kdl (fun s' q l h => vis T f s' q l h (d + 1)) t lo hi t.dn (met1 s p)) := HV1.out.trans (if_neg (by rw [hlf]; simp))
            have hdk : t.dn = t.kn + 1 := by
              have h := HCP.out
              unfold cntB at h
              rw [if_neg (by rw [hlf]; simp)] at h
              simp at h
              omega
            have HIV : Hid (Inv n (unm (met1 s p).met n) (met1 s p)) := ⟨by show s.cnt + 1 + unm (upf s.met p true) n = n; omega, Nat.le_refl _⟩
            have HUM : Hid (unm (met1 s p).met n < f) := by show unm (upf s.met p true) n < f; omega
            have hwd : IntKind.i64.wrap (d + 1) = d + 1 := by rw [IntKind.wrap_i64]; omega
            clear HV1 l0 lf
            go_wp2_with fail
            go_loopw [69] (fun i wr => ∃ (k : Nat) (s' : St), k ≤ t.dn ∧ i = .int .i64 k ∧ Hid (kdl (fun s' q l h => vis T f s' q l h (d + 1)) t lo hi k (met1 s p) = some s') ∧ Hid (Inv n (unm (met1 s p).met n) s') ∧ Hid (Ht W0 tb n wr s')) (fun i _ => t.dn - (intOf i).toNat)
            case atStart => exact ⟨0, met1 s p, Nat.zero_le _, rfl, rfl, HIV, HH1⟩
            case round =>
              clear HIV
              obtain ⟨k, s', hk, rfl, HKD, HIV, HHr⟩ := hrel
              by_cases hlt : k < t.dn
              · have hlt' : (k : Int) < (t.dn : Int) := by omega
                have hk0' : (0 : Int) ≤ (k : Int) := by omega
                have HCr : Hid (CNd wr b (off + p * 3) t ak ck ad cd) := HC0.out.block (HHr.out.below.block _ hbl)
                have HYr : Hid (IntsAt wr ak t.kn t.K) := HY0.out.below HHr.out.below
                rcases HZ0.out.below HHr.out.below with h | ⟨b1, o1, rfl, hl1, hc1⟩
                · omega
                have hx := hc1 k hlt
                have hDk := HDB.out k hlt
                obtain ⟨q, hq⟩ : ∃ q : Nat, t.D k = q := ⟨(t.D k).toNat, by omega⟩
                have hfn := HHr.out.fn
                have HST : Hid (kdl (fun s' q l h => vis T f s' q l h (d + 1)) t lo hi (k + 1) (met1 s p) = vis T f s' q (klo t lo k) (khi t hi k) (d + 1)) := by
                  show kdl _ t lo hi (k + 1) (met1 s p) = _
                  conv => lhs; unfold kdl
                  rw [HKD.out, hq]
                  rfl
                have hqn : q < n := by omega
                have hkk : k ≤ t.kn := by omega
                rw [hq] at hx
                clear hc1 hDk hq
                go_wp2_with fail
                refine (kidBounds_any t k lo hi b (off + p * 3) ak (some ⟨b1, o1, none⟩) ck cd wr hkn3 hkk HCr.out HYr.out).mono ?_
                rintro e w' ⟨rfl, hw⟩
                have hw1 := hw.symm
                clear hw
                subst hw1
                go_wp2_with fail
                refine (IH.out s' q (klo t lo k) (khi t hi k) (d + 1) wr HHr.out hqn HIV.out.1 (by have h1 := HIV.out.2; have h2 := HUM.out; omega) (by omega) (by omega)).mono ?_
                intro e w2 hpost
                cases hvis : vis T f s' q (klo t lo k) (khi t hi k) (d + 1)
                case none =>
                  rw [hvis] at hpost
                  obtain ⟨rfl, hb2⟩ := hpost
                  have HV2 : Hid (vis T (f + 1) s p lo hi d = none) := HV.out.trans (kdl_none (k := k + 1) (by omega) (HST.out.trans hvis))
                  clear hvis
                  go_wp2_with fail
                  go_ret
                  exact WkI.no HV2.out hb2
                case some s2 =>
                  rw [hvis] at hpost
                  obtain ⟨rfl, hH2⟩ := hpost
                  have HHr2 : Hid (Ht W0 tb n w2 s2) := hH2
                  have HKD2 : Hid (kdl (fun s' q l h => vis T f s' q l h (d + 1)) t lo hi (k + 1) (met1 s p) = some s2) := HST.out.trans hvis
                  have HIV2 : Hid (Inv n (unm (met1 s p).met n) s2) := vis_inv HG.out f s' q _ _ _ s2 _ hqn HIV.out hvis
                  clear hvis hH2
                  go_wp2_with fail
                  go_roundw
                  case rel => exact ⟨k + 1, s2, hlt, by go_num, HKD2, HIV2, HHr2⟩
                  case measure => simp [intOf]; omega
              · have hnl2 : ¬ ((k : Int) < (t.dn : Int)) := by omega
                have hkd : k = t.dn := by omega
                subst hkd
                go_wp2_with fail
                go_ret
                exact WkI.yes (HV.out.trans HKD.out) HHr.out
end Go.Proofs.Ytbnehgpefjbheaa
