/- Lists of lists of acts: sizes, copies, equal, marked; an argument that is one, opened. -/
import Derived.Test.YtcfenhnggccmmaaAcs
import Derived.Deep.RegionHeld3
namespace Go.Proofs.Ytcfenhnggccmmaa
open Go.ChangeShapes Go.WideShapes Go.ChangeAt Go.RowKit Go.Deep Go.Joins
set_option linter.unusedVariables false
set_option maxRecDepth 20000

theorem szActS_x (n : Nat) (a : Option Addr) (cap : Nat) (x : Int) (w : World) (hn : n ≤ 9223372036854775807) (h0 : 0 ≤ x) (h1 : x ≤ 1048576) :
    Calls Try.prog 28 #[.slice a n cap, .int .i64 x] w fun e w' => e = .returned (.int .i64 (if x - n < 0 then -1 else x - n)) ∧ w' = w := by
  by_cases h : x - (n : Int) < 0
  · go_enter Try.func28, Try.ntmps28
    go_wp2
    go_ret
    exact ⟨rfl, rfl⟩
  · go_enter Try.func28, Try.ntmps28
    go_wp2
    go_ret
    exact ⟨rfl, rfl⟩
theorem szActS_r (n : Nat) (a : Option Addr) (cap : Nat) (x : Int) (w : World) (hn : n ≤ 9223372036854775807) (h0 : 0 ≤ x) (h1 : x ≤ 1048576) :
    Calls Try.prog 28 #[.slice a n cap, .int .i64 x] w fun e w' => Below w.heap.size w w' ∧ ∃ r : Int, e = .returned (.int .i64 r) ∧ (r = -1 ∨ (0 ≤ r ∧ r = x - n)) := by
  refine (szActS_x n a cap x w hn h0 h1).mono ?_
  rintro e w' ⟨rfl, rfl⟩
  refine ⟨Below.refl _ _, _, rfl, ?_⟩
  by_cases h : x - (n : Int) < 0
  · exact .inl (if_pos h)
  · exact .inr (by rw [if_neg h]; omega)
/-- How many acts the first k have. -/
def smAl (T : Nat → Al) (k : Nat) : Nat := smf9 (fun i => (T i).n) k
theorem smAl_succ (T : Nat → Al) (k : Nat) : smAl T (k + 1) = smAl T k + (T k).n := rfl
def BigAl (n : Nat) (T : Nat → Al) : Prop := ∀ i, i < n → (T i).n ≤ 9223372036854775807
set_option maxHeartbeats 1000000 in
theorem szActSS_any (n : Nat) (T : Nat → Al) (a : Option Addr) (cap : Nat) (x : Int) (w : World) (hn : n ≤ 9223372036854775807) (hL : BigAl n T) (h0 : 0 ≤ x) (h1 : x ≤ 1048576) (h : AlsAt w a n T) :
    Calls Try.prog 7 #[.slice a n cap, .int .i64 x] w fun e w' => Below w.heap.size w w' ∧ ∃ r : Int, e = .returned (.int .i64 r) ∧ (r = -1 ∨ (0 ≤ r ∧ r = x - n - smAl T n)) := by
  by_cases hx : x - (n : Int) < 0
  · clear hL h
    go_enter Try.func7, Try.ntmps7
    go_wp2
    go_ret
    exact ⟨Below.refl _ _, _, rfl, .inl rfl⟩
  · go_enter Try.func7, Try.ntmps7
    have HL : Hid (BigAl n T) := hL
    have HA : Hid (AlsAt w a n T) := h
    clear hL h
    go_wp2
    go_loopw [1, 5] (fun q i wr => ∃ k : Nat, k ≤ n ∧ i = .int .i64 k ∧ q = .int .i64 (x - n - smAl T k) ∧ 0 ≤ x - n - smAl T k ∧ Below w.heap.size w wr) (fun _ i _ => n - (intOf i).toNat)
    case atStart => exact ⟨0, Nat.zero_le _, rfl, by simp [smAl, smf9], by simp [smAl, smf9]; omega, Below.refl _ _⟩
    case round =>
      obtain ⟨k, hk, rfl, rfl, hnn, hb⟩ := hrel
      by_cases hlt : k < n
      · rcases HA.out.below hb with h | ⟨b, off, rfl, hl, hc⟩
        · omega
        obtain ⟨a0, c0, q0, -, -⟩ := hc k hlt
        have hs : (smAl T (k + 1) : Int) = smAl T k + (T k).n := by rw [smAl_succ]; simp
        have hTk := HL.out k hlt
        generalize hS : (smAl T k : Int) = S at *
        have HB : Hid (Below w.heap.size w wr) := hb
        clear hc hb
        go_wp2_with fail
        refine (szActS_r (T k).n a0 c0 (x - n - S) wr hTk hnn (by omega)).mono ?_
        rintro e w' ⟨hb', r, rfl, hr⟩
        have HB' : Hid (Below w.heap.size w w') := below_then HB.out hb'
        clear hb' q0
        rcases hr with rfl | ⟨hr0, hr1⟩
        · go_wp2_with fail
          go_ret
          exact ⟨HB'.out, _, rfl, .inl rfl⟩
        · have hng : ¬ r < 0 := by omega
          have HR : Hid (r = x - n - S - (T k).n) := hr1
          clear hr1
          go_wp2_with fail
          go_roundw
          case rel => exact ⟨k + 1, hlt, by go_num, by rw [hs, HR.out]; congr 1; omega, by rw [hs]; have := HR.out; omega, HB'.out⟩
          case measure => simp [intOf]; omega
      · have hkn : k = n := by omega
        go_wp2
        go_ret
        exact ⟨hb, _, rfl, .inr ⟨by first | exact hnn | (rw [hkn] at hnn; exact hnn), by first | rfl | rw [hkn]⟩⟩
theorem pref9_zAl (T : Nat → Al) (k : Nat) : pref9 T (fun _ => zAl) k k = zAl := pref9_at _ _ _
theorem upf9_self (T : Nat → Al) (k : Nat) : upf9 (pref9 T (fun _ => zAl) k) k ⟨(T k).n, (T k).R⟩ = pref9 T (fun _ => zAl) (k + 1) := pref9_upf T (fun _ => zAl) k
def SmAl (n : Nat) (T : Nat → Al) : Prop := ∀ i, i < n → (T i).n ≤ 1048576
set_option maxHeartbeats 2000000 in
theorem toActSS_any (n : Nat) (T : Nat → Al) (a : Option Addr) (cap : Nat) (w : World) (hn : n ≤ 1048576) (hL : SmAl n T) (h : AlsAt w a n T) :
    Calls Try.prog 9 #[.slice a n cap] w fun e w' =>
      e = .returned (.slice (some ⟨w.heap.size, 0, none⟩) n n) ∧ Below w.heap.size w w' ∧ OwnAl w' w.heap.size w'.heap.size (some ⟨w.heap.size, 0, none⟩) n T := by
  have hmk := run_make_Al n (by omega)
  have HL : Hid (SmAl n T) := hL
  have HA : Hid (AlsAt w a n T) := h
  clear hL h
  go_enter Try.func9, Try.ntmps9
  go_wp2
  clear hmk
  go_loopw [4] (fun i wr => ∃ k : Nat, k ≤ n ∧ i = .int .i64 k ∧ Hid (Below w.heap.size w wr) ∧ Hid (OwnAl wr w.heap.size wr.heap.size (some ⟨w.heap.size, 0, none⟩) n (pref9 T (fun _ => zAl) k))) (fun i _ => n - (intOf i).toNat)
  case atStart => exact ⟨0, Nat.zero_le _, rfl, (Below.refl _ _).alloc (Nat.le_refl _) _, by rw [pref9_zero]; exact (made_Al w n).wide (Nat.le_refl _) (by simp) (Nat.le_refl _)⟩
  case round =>
    obtain ⟨k, hk, rfl, HB, HO⟩ := hrel
    by_cases hlt : k < n
    · rcases HA.out.below HB.out with h | ⟨b, off, rfl, hl, hc⟩
      · omega
      obtain ⟨a0, c0, q0, hI, -⟩ := hc k hlt
      have HI : Hid (AcsAt wr a0 (T k).n (T k).R) := hI
      obtain ⟨h0, h1 | ⟨b1, off1, ha, hlo, hl1, hf, l, h, hd, hc1⟩⟩ := HO.out
      · omega
      simp only [Option.some.injEq, Addr.mk.injEq, and_true] at ha
      obtain ⟨rfl, rfl⟩ := ha
      obtain ⟨_, _, _, x0, y0, hC1, -⟩ := hc1 k hlt
      rw [pref9_zAl, Nat.zero_add] at hC1
      have hsz : w.heap.size < wr.heap.size := by omega
      have hlt' : (k : Int) < (n : Int) := by omega
      have hk0 : (0 : Int) ≤ (k : Int) := by omega
      have hTk := HL.out k hlt
      clear hc hI hc1 hd
      go_wp2_with fail
      refine (toActS_any (T k).n (T k).R a0 c0 wr hTk HI.out).mono ?_
      rintro e w1 ⟨B0, rfl, hb1, hr1⟩
      have HB1 : Hid (Below wr.heap.size wr w1) := hb1
      have HR1 : Hid (OwnAc w1 wr.heap.size w1.heap.size (some ⟨B0, 0, none⟩) (T k).n (T k).R) := hr1
      have z0 := (World.cell?_of_block (w := wr) (w' := w1) (a := ⟨w.heap.size, k, none⟩) (hb1.block _ hsz)).trans hC1
      replace hf : ∀ i, w1.frozen? ⟨w.heap.size, i, none⟩ = false := fun i => (hb1.frozen (p := ⟨_, _, none⟩) hsz).trans (hf i)
      clear hb1 hr1 hC1 q0
      go_wp2_with fail
      go_roundw
      case rel =>
        have HS := (HO.out.below HB1.out).store (t := T k) (c0 := (T k).n) hlt HB1.out.size (Nat.le_refl _) (Nat.le_refl _) HB1.out.size (Nat.le_refl _) (Nat.le_refl _) HR1.out
        rw [pref9_upf, Nat.zero_add] at HS
        refine ⟨k + 1, hlt, by go_num, (below_then HB.out HB1.out).setCell (p := ⟨_, _, none⟩) (Nat.le_refl _) _, ?_⟩
        have es : (w1.setCell ⟨w.heap.size, k, none⟩ (.slice (some ⟨B0, 0, none⟩) (T k).n (T k).n)).heap.size = w1.heap.size := by simp [World.setCell]
        rw [← es] at HS
        exact HS
      case measure => simp [intOf]; omega
    · have hkn : k = n := by omega
      have HT : Hid (OwnAl wr w.heap.size wr.heap.size (some ⟨w.heap.size, 0, none⟩) n T) := by
        refine HO.out.congr fun i hi => pref9_lt _ _ (by omega)
      have hnl : ¬ ((k : Int) < (n : Int)) := by omega
      go_wp2_with fail
      go_ret
      exact ⟨rfl, HB.out, HT.out⟩
/-! ### equal -/
set_option maxHeartbeats 4000000 in
theorem eqActSS_any (n : Nat) (T : Nat → Al) (a a' : Option Addr) (cap cap' : Nat) (w : World) (hn : n ≤ 1048576) (hL : SmAl n T) (h : AlsAt w a n T) (h' : AlsAt w a' n T) :
    Calls Try.prog 11 #[.slice a n cap, .slice a' n cap'] w fun e w' => e = .returned (.bool true) ∧ Below w.heap.size w w' := by
  have HL : Hid (SmAl n T) := hL
  have HA : Hid (AlsAt w a n T) := h
  have HA' : Hid (AlsAt w a' n T) := h'
  have hne : ((n : Int) != (n : Int)) = false := by simp
  clear hL h h'
  go_enter Try.func11, Try.ntmps11
  go_wp2_with fail
  go_loopw [5] (fun i wr => ∃ k : Nat, k ≤ n ∧ i = .int .i64 k ∧ Hid (Below w.heap.size w wr)) (fun i _ => n - (intOf i).toNat)
  case atStart => exact ⟨0, Nat.zero_le _, rfl, Below.refl _ _⟩
  case round =>
    obtain ⟨k, hk, rfl, HB⟩ := hrel
    by_cases hlt : k < n
    · have hlt' : (k : Int) < (n : Int) := by omega
      have hk0 : (0 : Int) ≤ (k : Int) := by omega
      rcases HA.out.below HB.out with h | ⟨b, off, rfl, hl, hc⟩
      · omega
      rcases HA'.out.below HB.out with h | ⟨b', off', rfl, hl', hc'⟩
      · omega
      obtain ⟨a0, c0, q0, hy1, -⟩ := hc k hlt
      obtain ⟨d0, e0, y0, hy2, -⟩ := hc' k hlt
      have H1 : Hid (AcsAt wr a0 (T k).n (T k).R) := hy1
      have H2 : Hid (AcsAt wr d0 (T k).n (T k).R) := hy2
      have hTk := HL.out k hlt
      clear hc hc' hy1 hy2
      generalize T k = t at *
      go_wp2_with fail
      have hb0 : Below wr.heap.size wr wr.drew := (Below.refl _ _).drew
      go_region_held3 (fun w' => Below wr.heap.size wr w' ∧ w'.cell? ⟨b, off + k, none⟩ = some (.slice a0 t.n c0) ∧ w'.cell? ⟨b', off' + k, none⟩ = some (.slice d0 t.n e0)) (go_keep)
        (first | (go_at_call 35; refine (eqActS_any t.n t.R a0 d0 c0 e0 _ hTk (H1.out.below (by simp [*])) (H2.out.below (by simp [*]))).mono ?_; rintro e w1 ⟨rfl, hbq⟩; have hU := below_then (w := wr) (by simp [*]) hbq; have u0 := cell_below (B := b) (o := off + k) (v := .slice a0 t.n c0) (by simp [*]) hbq; have u1 := cell_below (B := b') (o := off' + k) (v := .slice d0 t.n e0) (by simp [*]) hbq))
      go_wp2_with fail
      go_roundw
      case rel => exact ⟨k + 1, hlt, by go_num, below_then HB.out (by assumption)⟩
      case measure => simp [intOf]; omega
    · have hkn : k = n := by omega
      have hnl : ¬ ((k : Int) < (n : Int)) := by omega
      go_wp2_with fail
      go_ret
      exact ⟨rfl, HB.out⟩
/-! ### marked -/
set_option maxHeartbeats 4000000 in
theorem markActSS_any (n : Nat) (T : Nat → Al) (a : Option Addr) (cap lo hi : Nat) (w : World) (hn : n ≤ 1048576) (hs : smAl T n ≤ 1048576) (h : OwnAl w lo hi a n T) :
    Calls Try.prog 19 #[.slice a n cap, .int .i64 1] w fun e w' => e = .returned (.int .i64 (1 + smAl T n * 4)) ∧ Writes lo hi w w' := by
  have HO : Hid (OwnAl w lo hi a n T) := h
  clear h
  go_enter Try.func19, Try.ntmps19
  go_wp2
  go_loopw [1, 5] (fun q i wr => ∃ k : Nat, k ≤ n ∧ i = .int .i64 k ∧ q = .int .i64 (1 + smAl T k * 4) ∧ Hid (Writes lo hi w wr) ∧ Hid (∃ T', OwnAl wr lo hi a n T' ∧ ∀ i, (T' i).n = (T i).n)) (fun _ i _ => n - (intOf i).toNat)
  case atStart => exact ⟨0, Nat.zero_le _, rfl, by simp [smAl, smf9], Writes.refl _ _ _, T, HO.out, fun _ => rfl⟩
  case round =>
    obtain ⟨k, hk0, rfl, rfl, HB, HP⟩ := hrel
    by_cases hlt : k < n
    · obtain ⟨T', hO, hT⟩ := HP.out
      obtain ⟨b, off, a0, c0, l, h', rfl, hbl, hc, hcn, hr, ho, hU⟩ := hO.pick hlt
      have hLk := smf9_ge (fun i => (T i).n) n k hlt
      have hsk := smf9_le (fun i => (T i).n) (n := n) (i := k) (by omega)
      have hstep : (smAl T (k + 1) : Int) = smAl T k + (T k).n := by rw [smAl_succ]; simp
      have hSb : (smAl T k : Int) ≤ 1048576 := by unfold smAl at *; omega
      have hTk : (T' k).n ≤ 1048576 := by rw [hT]; unfold smAl at *; omega
      have hlt' : (k : Int) < (n : Int) := by omega
      have hk1 : (0 : Int) ≤ (k : Int) := by omega
      have HT : Hid ((T' k).n = (T k).n) := hT k
      have HTT : Hid (∀ i, (T' i).n = (T i).n) := hT
      have HU : Hid (∀ w' R', Writes l h' wr w' → OwnAc w' l h' a0 (T' k).n R' → OwnAl w' lo hi (some ⟨b, off, none⟩) n (upf9 T' k ⟨(T' k).n, R'⟩)) := hU
      have HOo : Hid (OwnAc wr l h' a0 (T' k).n (T' k).R) := ho
      have HR : Hid (h' = 0 ∨ lo ≤ l ∧ h' ≤ hi) := hr
      have hS0 : 0 ≤ (smAl T k : Int) := by omega
      generalize hS : (smAl T k : Int) = S at *
      clear hO hU hT ho hr hLk hsk HP
      go_wp2_with fail
      refine (markActS_any (T' k).n (T' k).R a0 c0 l h' (1 + S * 4) wr hTk (by omega) (by omega) HOo.out).mono ?_
      rintro e w1 ⟨rfl, hw, ho1⟩
      have HW : Hid (Writes l h' wr w1) := hw
      have HN : Hid (∃ T2, OwnAl w1 lo hi (some ⟨b, off, none⟩) n T2 ∧ ∀ i, (T2 i).n = (T i).n) := ⟨_, HU.out w1 _ hw ho1, fun i => by
        by_cases e : i = k
        · subst e; rw [upf9_eq]; exact HT.out
        · rw [upf9_ne _ _ e]; exact HTT.out i⟩
      clear hw ho1
      go_wp2_with fail
      go_roundw
      case rel =>
        refine ⟨k + 1, hlt, by go_num, by rw [hstep]; have := HT.out; congr 1; omega, HB.out.trans ?_, HN.out⟩
        have := HR.out
        exact ⟨HW.out.os, HW.out.tape, HW.out.output, HW.out.size, fun q hq hd => HW.out.block q hq (by omega)⟩
      case measure => simp [intOf]; omega
    · have hkn : k = n := by omega
      have hnl : ¬ ((k : Int) < (n : Int)) := by omega
      go_wp2_with fail
      go_ret
      exact ⟨ret_int (by first | rfl | rw [hkn]), HB.out⟩
/-! ### opened -/
theorem cellsAl : Try.prog.cellsOf 50 = 1 := by kernel_rfl
theorem openAls {H : Type} {enc : TypeId × Value → H} {W : World} {fuel : Nat} {cs : List Value} {x : DataW H × List MemPlace}
    (h : DataW.trod enc Try.prog W 0 (fun _ => true) true fuel 22 cs = some x) :
    ∃ (a : Option Addr) (n cap : Nat) (T : Nat → Al), cs = [.slice a n cap] ∧ n ≤ 9223372036854775807 ∧ BigAl n T ∧ AlsAt W a n T := by
  rcases open_slice Try.underlying22 h with ⟨rfl, _⟩ | ⟨a, l, c, m, nn, D, Pl, rfl, _, hl, hm, hmm, _, hx⟩
  · exact ⟨none, 0, 0, fun _ => zAl, rfl, by omega, fun i hi => by omega, .inl rfl⟩
  · have hmc : m = c := by simpa using hmm
    unfold maxLen at hm
    rw [cellsAl] at hx
    have each : ∀ i, i < l → ∃ q : Al × (Option Addr × Nat), W.cell? (a.add i) = some (.slice q.2.1 q.1.n q.2.2) ∧ q.1.n ≤ 9223372036854775807 ∧ AcsAt W q.2.1 q.1.n q.1.R ∧ q.1.n ≤ q.2.2 := fun i hi => by
      obtain ⟨cs', h1, h2⟩ := hx i (by omega)
      obtain ⟨_, hlen, hcell⟩ := World.cells?_some h1
      obtain ⟨p0, n0, r0, R0, rfl, k0, l0, m0⟩ := openActs h2
      have e0 := hcell 0 (by omega)
      rw [add_add] at e0
      exact ⟨(⟨n0, R0⟩, (p0, r0)), by simpa using e0, l0, m0, k0⟩
    have nonE : Inhabited Al := ⟨zAl⟩
    obtain ⟨q, hq⟩ := choose_lt each
    refine ⟨some a, l, c, fun i => (q i).1, rfl, by omega, fun i hi => (hq i hi).2.1, ?_⟩
    by_cases hz0 : l = 0
    · exact .inl hz0
    · obtain ⟨b, off, spot⟩ := a
      have hc0 := (hq 0 (by omega)).1
      have hspot : spot = none := by simpa [Addr.add] using World.cell?_spot hc0
      subst hspot
      refine .inr ⟨b, off, rfl, Go.block_lt_of_cell hc0, fun i hi => ?_⟩
      obtain ⟨k0, k1, k2, k3⟩ := hq i hi
      rw [add_plain] at k0
      exact ⟨(q i).2.1, (q i).2.2, k0, k2, k3⟩
end Go.Proofs.Ytcfenhnggccmmaa
