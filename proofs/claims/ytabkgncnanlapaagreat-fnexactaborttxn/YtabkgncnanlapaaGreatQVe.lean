/- Transactions and rows in sets of blocks of their own. -/
import Derived.Test.YtabkgncnanlapaaGreatQEe
namespace Go.Proofs.YtabkgncnanlapaaGreat
open Go.RowKit Go.Deep
set_option linter.unusedVariables false
set_option maxRecDepth 20000
open Go.ChangeShapes Go.WideShapes Go.ChangeAt Go.RowKit Go.Deep Go.Joins

/-- Are a version's numbers in their bounds? -/
def vR (r : Vr) : Bool := inB r.t 1 999 && inB r.a 0 1000000 && inB r.v 0 9999
/-- Has the i-th version a wrong form? -/
def vF (R : Nat → Vr) (i : Nat) : Bool := (R i).g && (R i).v != 0 || (decide (0 < i) && !older (R i) (R (i - 1)))
/-- The first fault of the versions from the i-th on, m of them. -/
def chf (R : Nat → Vr) : Nat → Nat → Int
  | 0, _ => 0
  | m + 1, i => if vR (R i) = false then 3 else if vF R i = true then 1 else chf R m (i + 1)
def chF (n : Nat) (R : Nat → Vr) : Int := if 12 < n then 2 else chf R n 0
theorem chf_at {R : Nat → Vr} {n k : Nat} (h : k < n) : chf R (n - k) k = if vR (R k) = false then 3 else if vF R k = true then 1 else chf R (n - (k + 1)) (k + 1) := by
  obtain ⟨m, hm⟩ : ∃ m, n - k = m + 1 := ⟨n - k - 1, by omega⟩
  rw [hm, chf, show n - (k + 1) = m by omega]
theorem box_v (w : World) (r : Vr) (T : TypeId) : C4 (w.alloc (.cells #[.int .i64 r.t, .int .i64 r.a, .bool r.g, .int .i64 r.v] T)) w.heap.size 0 r := by simp [C4]
theorem C4.below {w w' : World} {b o : Nat} {r : Vr} (h : C4 w b o r) (hb : Below w.heap.size w w') : C4 w' b o r := h.block (hb.block _ (Go.block_lt_of_cell h.1))
theorem any_skip {P : Program} {md : Region.Mode} {ops : Array Oper} {Q : Exit → Act → World → Prop} {fuel : Nat} {listed : Array Bool} {a : Act} {w : World} (i : Nat) (d : Option Tmp) (hd : (ops[i]?).map (fun o => o.dst) = some d)
    (hs : Region.noSelect ops = true) (hf : Region.free md ops listed i = true) (hr : (Region.ready md ops listed).contains i = true)
    (hw : (ops[i]?).map (fun o => Region.wanted o (yielded ops a.tmps)) = some false) (hQ : ∀ c a w, Q (.panic c) (a.put d undef) w → Q (.panic c) a w)
    (h : wpAny P md ops Q fuel (listed.setIfInBounds i true) (a.put d undef) w) : wpAny P md ops Q (fuel + 1) listed a w := by
  obtain ⟨o, ho, rfl⟩ := Option.map_eq_some_iff.1 hd
  obtain ⟨o', ho', hw'⟩ := Option.map_eq_some_iff.1 hw
  obtain rfl : o = o' := by rw [ho] at ho'; exact Option.some.inj ho'
  exact wpAny_take ho hs hf hr hQ (.inr ⟨hw', rfl⟩) h

set_option maxHeartbeats 8000000 in
theorem implChf_some (n : Nat) (R : Nat → Vr) (b off cap : Nat) (w : World) (hn : n ≤ 12) (hbl : b < w.heap.size) (hc : ∀ i, i < n → C4 w b (off + i * 4) (R i)) :
    Calls Tryz.prog 113 #[.slice (some ⟨b, off, none⟩) n cap] w fun e w' => e = .returned (.int .i64 (chf R n 0)) ∧ Below w.heap.size w w' := by
  have HC : Hid (∀ i, i < n → C4 w b (off + i * 4) (R i)) := hc
  have hn' : ¬ ((12 : Int) < (n : Int)) := by omega
  clear hc
  go_enter Tryz.func113, Tryz.ntmps113
  go_wp2_with fail
  go_loopw [3, 4, 10] (fun _ _ i wr => ∃ k : Nat, k ≤ n ∧ i = .int .i64 k ∧ Hid (chf R n 0 = chf R (n - k) k) ∧ Hid (Below w.heap.size w wr)) (fun _ _ i _ => n - (intOf i).toNat)
  case atStart => exact ⟨0, Nat.zero_le _, rfl, rfl, Below.refl _ _⟩
  case round =>
    obtain ⟨k, hk0, rfl, HE, HB⟩ := hrel
    by_cases hlt : k < n
    · have hX := (HC.out k hlt).block (HB.out.block _ hbl)
      have hbw : b < wr.heap.size := Nat.lt_of_lt_of_le hbl HB.out.size
      have hbne : ¬ b = wr.heap.size := by omega
      have hlt' : (k : Int) < (n : Int) := by omega
      have hk1 : (0 : Int) ≤ (k : Int) := by omega
      have HA : Hid (chf R n 0 = _) := HE.out.trans (chf_at hlt)
      clear HE
      by_cases hr : vR (R k) = false
      · have HE : Hid (chf R n 0 = 3) := HA.out.trans (if_pos hr)
        clear HA
        obtain ⟨x0, x1, x2, x3⟩ := hX
        generalize R k = r at *
        obtain ⟨t, a, g, v⟩ := r
        unfold vR at hr
        by_cases h1 : inB t 1 999 = true
        · by_cases h2 : inB a 0 1000000 = true
          · have h3 : inB v 0 9999 = false := by simpa [h1, h2] using hr
            clear hr
            go_wp2_with (first | (go_at_call 85; refine (isTxn_any _ _).mono ?_; rintro e w' ⟨rfl, rfl⟩) | (go_at_call 86; refine (isAt_any _ _).mono ?_; rintro e w' ⟨rfl, rfl⟩) | (go_at_call 73; refine (isValue_any _ _).mono ?_; rintro e w' ⟨rfl, rfl⟩))
            go_ret
            exact ⟨ret_int HE.out.symm, below_then HB.out (below_new _ _)⟩
          · have h4 : inB a 0 1000000 = false := by simpa using h2
            clear hr h2
            go_wp2_with (first | (go_at_call 85; refine (isTxn_any _ _).mono ?_; rintro e w' ⟨rfl, rfl⟩) | (go_at_call 86; refine (isAt_any _ _).mono ?_; rintro e w' ⟨rfl, rfl⟩))
            go_ret
            exact ⟨ret_int HE.out.symm, below_then HB.out (below_new _ _)⟩
        · have h4 : inB t 1 999 = false := by simpa using h1
          clear hr h1
          go_wp2_with (go_at_call 85; refine (isTxn_any _ _).mono ?_; rintro e w' ⟨rfl, rfl⟩)
          go_ret
          exact ⟨ret_int HE.out.symm, below_then HB.out (below_new _ _)⟩
      · have hr' : vR (R k) = true := by simpa using hr
        have ⟨⟨h1, h2⟩, h3⟩ : (inB (R k).t 1 999 = true ∧ inB (R k).a 0 1000000 = true) ∧ inB (R k).v 0 9999 = true := by simpa [vR] using hr'
        have HA2 : Hid (chf R n 0 = _) := HA.out.trans (if_neg hr)
        clear HA hr hr'
        by_cases hg : ((R k).g && (R k).v != 0) = true
        · have HE : Hid (chf R n 0 = 1) := HA2.out.trans (if_pos (by simp only [vF, hg, Bool.true_or]))
          clear HA2
          generalize R k = r at *
          obtain ⟨x0, x1, x2, x3⟩ := hX
          go_wp2_with (first | (go_at_call 85; refine (isTxn_any _ _).mono ?_; rintro e w' ⟨rfl, rfl⟩) | (go_at_call 86; refine (isAt_any _ _).mono ?_; rintro e w' ⟨rfl, rfl⟩) | (go_at_call 73; refine (isValue_any _ _).mono ?_; rintro e w' ⟨rfl, rfl⟩))
          have hBX := box_v wr r 92
          have HB0 : Hid (Below w.heap.size w (wr.alloc (.cells #[.int .i64 r.t, .int .i64 r.a, .bool r.g, .int .i64 r.v] 92))) := below_then HB.out (below_new _ _)
          generalize wr.alloc (.cells #[.int .i64 r.t, .int .i64 r.a, .bool r.g, .int .i64 r.v] 92) = wc at *
          generalize wr.heap.size = B at *
          obtain ⟨q0, q1, q2, q3⟩ := hBX
          simp only [Nat.zero_add] at q1 q2 q3
          clear x0 x1 x2 x3
          refine wp_region_any (by kernel_rfl) ?_
          change wpAny _ _ _ _ _ _ _ (World.drew _)
          refine wpAny_ready (rs := [0]) (by kernel_rfl) (by simp) ?_
          refine AllReady.cons rfl (fun K hK => ?_) AllReady.nil
          go_simp
          refine hK _ _ ?_
          clear hK K
          refine wpAny_ready (rs := [1]) (by kernel_rfl) (by simp) ?_
          refine AllReady.cons rfl (fun K hK => ?_) AllReady.nil
          go_simp
          go_at_call 125
          refine (goneWithValue_any _ _ _ _ _).mono ?_
          rintro e w1 ⟨rfl, hb1⟩
          rw [hg]
          have HB1 : Hid (Below w.heap.size w w1) := below_then HB0.out (drewB6 hb1)
          go_simp
          refine hK _ _ ?_
          clear hK K
          refine wpAny_take (i := 2) (v := .bool true) rfl (by kernel_rfl) (by kernel_rfl) (by kernel_rfl) (fun _ _ _ h => h) (Or.inl ⟨by kernel_rfl, by intro w; go_simp⟩) ?_
          refine any_skip 3 (some 34) (by kernel_rfl) (by kernel_rfl) (by kernel_rfl) (by kernel_rfl) (by kernel_rfl) (fun _ _ _ h => h) ?_
          refine any_skip 4 (some 35) (by kernel_rfl) (by kernel_rfl) (by kernel_rfl) (by kernel_rfl) (by kernel_rfl) (fun _ _ _ h => h) ?_
          refine any_skip 5 (some 36) (by kernel_rfl) (by kernel_rfl) (by kernel_rfl) (by kernel_rfl) (by kernel_rfl) (fun _ _ _ h => h) ?_
          refine any_skip 6 (some 37) (by kernel_rfl) (by kernel_rfl) (by kernel_rfl) (by kernel_rfl) (by kernel_rfl) (fun _ _ _ h => h) ?_
          refine any_skip 7 (some 38) (by kernel_rfl) (by kernel_rfl) (by kernel_rfl) (by kernel_rfl) (by kernel_rfl) (fun _ _ _ h => h) ?_
          refine any_skip 8 (some 39) (by kernel_rfl) (by kernel_rfl) (by kernel_rfl) (by kernel_rfl) (by kernel_rfl) (fun _ _ _ h => h) ?_
          refine any_skip 9 (some 40) (by kernel_rfl) (by kernel_rfl) (by kernel_rfl) (by kernel_rfl) (by kernel_rfl) (fun _ _ _ h => h) ?_
          refine any_skip 10 (some 41) (by kernel_rfl) (by kernel_rfl) (by kernel_rfl) (by kernel_rfl) (by kernel_rfl) (fun _ _ _ h => h) ?_
          refine any_skip 11 (some 42) (by kernel_rfl) (by kernel_rfl) (by kernel_rfl) (by kernel_rfl) (by kernel_rfl) (fun _ _ _ h => h) ?_
          refine any_skip 12 (some 43) (by kernel_rfl) (by kernel_rfl) (by kernel_rfl) (by kernel_rfl) (by kernel_rfl) (fun _ _ _ h => h) ?_
          refine any_skip 13 (some 44) (by kernel_rfl) (by kernel_rfl) (by kernel_rfl) (by kernel_rfl) (by kernel_rfl) (fun _ _ _ h => h) ?_
          refine any_skip 14 (some 45) (by kernel_rfl) (by kernel_rfl) (by kernel_rfl) (by kernel_rfl) (by kernel_rfl) (fun _ _ _ h => h) ?_
          refine wpAny_take (i := 15) (v := .bool true) rfl (by kernel_rfl) (by kernel_rfl) (by kernel_rfl) (fun _ _ _ h => h) (Or.inl ⟨by kernel_rfl, by intro w; go_simp⟩) ?_
          refine wpAny_done (by kernel_rfl) ?_ _
          go_simp
          go_wp2_with fail
          go_ret
          exact ⟨ret_int HE.out.symm, HB1.out⟩
        · have hg' : ((R k).g && (R k).v != 0) = false := by simpa using hg
          clear hg
          rcases Nat.eq_zero_or_pos k with hk9 | hpos
          · have hd : decide (0 < k) = false := by simp; omega
            have HE : Hid (chf R n 0 = chf R (n - (k + 1)) (k + 1)) := HA2.out.trans (if_neg (by simp only [vF, hg', Bool.false_or]; simp; omega))
            clear HA2 hk9
            generalize R k = r at *
            obtain ⟨x0, x1, x2, x3⟩ := hX
            go_wp2_with (first | (go_at_call 85; refine (isTxn_any _ _).mono ?_; rintro e w' ⟨rfl, rfl⟩) | (go_at_call 86; refine (isAt_any _ _).mono ?_; rintro e w' ⟨rfl, rfl⟩) | (go_at_call 73; refine (isValue_any _ _).mono ?_; rintro e w' ⟨rfl, rfl⟩))
            have hBX := box_v wr r 92
            have HB0 : Hid (Below w.heap.size w (wr.alloc (.cells #[.int .i64 r.t, .int .i64 r.a, .bool r.g, .int .i64 r.v] 92))) := below_then HB.out (below_new _ _)
            generalize wr.alloc (.cells #[.int .i64 r.t, .int .i64 r.a, .bool r.g, .int .i64 r.v] 92) = wc at *
            generalize wr.heap.size = B at *
            obtain ⟨q0, q1, q2, q3⟩ := hBX
            simp only [Nat.zero_add] at q1 q2 q3
            clear x0 x1 x2 x3
            refine wp_region_any (by kernel_rfl) ?_
            change wpAny _ _ _ _ _ _ _ (World.drew _)
            refine wpAny_ready (rs := [0]) (by kernel_rfl) (by simp) ?_
            refine AllReady.cons rfl (fun K hK => ?_) AllReady.nil
            go_simp
            refine hK _ _ ?_
            clear hK K
            refine wpAny_ready (rs := [1]) (by kernel_rfl) (by simp) ?_
            refine AllReady.cons rfl (fun K hK => ?_) AllReady.nil
            go_simp
            go_at_call 125
            refine (goneWithValue_any _ _ _ _ _).mono ?_
            rintro e w1 ⟨rfl, hb1⟩
            rw [hg']
            have HB1 : Hid (Below w.heap.size w w1) := below_then HB0.out (drewB6 hb1)
            go_simp
            refine hK _ _ ?_
            clear hK K
            refine wpAny_take (i := 2) (v := .bool false) rfl (by kernel_rfl) (by kernel_rfl) (by kernel_rfl) (fun _ _ _ h => h) (Or.inl ⟨by kernel_rfl, by intro w; go_simp⟩) ?_
            refine wpAny_take (i := 3) (v := .int .i64 (k : Int)) rfl (by kernel_rfl) (by kernel_rfl) (by kernel_rfl) (fun _ _ _ h => h) (Or.inl ⟨by kernel_rfl, by intro w; go_simp⟩) ?_
            refine wpAny_take (i := 4) (v := .bool false) rfl (by kernel_rfl) (by kernel_rfl) (by kernel_rfl) (fun _ _ _ h => h) (Or.inl ⟨by kernel_rfl, by intro w; go_simp⟩) ?_
            refine wpAny_take (i := 5) (v := .bool false) rfl (by kernel_rfl) (by kernel_rfl) (by kernel_rfl) (fun _ _ _ h => h) (Or.inl ⟨by kernel_rfl, by intro w; go_simp⟩) ?_
            refine any_skip 6 (some 37) (by kernel_rfl) (by kernel_rfl) (by kernel_rfl) (by kernel_rfl) (by kernel_rfl) (fun _ _ _ h => h) ?_
            refine any_skip 7 (some 38) (by kernel_rfl) (by kernel_rfl) (by kernel_rfl) (by kernel_rfl) (by kernel_rfl) (fun _ _ _ h => h) ?_
            refine any_skip 8 (some 39) (by kernel_rfl) (by kernel_rfl) (by kernel_rfl) (by kernel_rfl) (by kernel_rfl) (fun _ _ _ h => h) ?_
            refine any_skip 9 (some 40) (by kernel_rfl) (by kernel_rfl) (by kernel_rfl) (by kernel_rfl) (by kernel_rfl) (fun _ _ _ h => h) ?_
            refine any_skip 10 (some 41) (by kernel_rfl) (by kernel_rfl) (by kernel_rfl) (by kernel_rfl) (by kernel_rfl) (fun _ _ _ h => h) ?_
            refine any_skip 11 (some 42) (by kernel_rfl) (by kernel_rfl) (by kernel_rfl) (by kernel_rfl) (by kernel_rfl) (fun _ _ _ h => h) ?_
            refine any_skip 12 (some 43) (by kernel_rfl) (by kernel_rfl) (by kernel_rfl) (by kernel_rfl) (by kernel_rfl) (fun _ _ _ h => h) ?_
            refine any_skip 13 (some 44) (by kernel_rfl) (by kernel_rfl) (by kernel_rfl) (by kernel_rfl) (by kernel_rfl) (fun _ _ _ h => h) ?_
            refine wpAny_take (i := 14) (v := .bool false) rfl (by kernel_rfl) (by kernel_rfl) (by kernel_rfl) (fun _ _ _ h => h) (Or.inl ⟨by kernel_rfl, by intro w; go_simp⟩) ?_
            refine wpAny_take (i := 15) (v := .bool false) rfl (by kernel_rfl) (by kernel_rfl) (by kernel_rfl) (fun _ _ _ h => h) (Or.inl ⟨by kernel_rfl, by intro w; go_simp⟩) ?_
            refine wpAny_done (by kernel_rfl) ?_ _
            go_simp
            go_wp2_with fail
            go_roundw
            case rel => exact ⟨k + 1, hlt, by go_num, HE, HB1⟩
            case measure => simp [intOf]; omega
          · obtain ⟨j, rfl⟩ : ∃ j, k = j + 1 := ⟨k - 1, by omega⟩
            have hP := (HC.out j (by omega)).block (HB.out.block _ hbl)
            have hj1 : (j : Int) < (n : Int) := by omega
            have hj2 : (0 : Int) ≤ (j : Int) := by omega
            have hj3 : (0 : Int) < (j : Int) + 1 := by omega
            have hwj : IntKind.i64.wrap (j : Int) = (j : Int) := by rw [IntKind.wrap_i64]; omega
            by_cases ho : older (R (j + 1)) (R j) = true
            · have HE : Hid (chf R n 0 = chf R (n - (j + 1 + 1)) (j + 1 + 1)) := HA2.out.trans (if_neg (by simp only [vF, hg', Bool.false_or]; simp [ho]))
              clear HA2 hpos
              generalize R (j + 1) = r at *
              generalize R j = p at *
              obtain ⟨x0, x1, x2, x3⟩ := hX
              go_wp2_with (first | (go_at_call 85; refine (isTxn_any _ _).mono ?_; rintro e w' ⟨rfl, rfl⟩) | (go_at_call 86; refine (isAt_any _ _).mono ?_; rintro e w' ⟨rfl, rfl⟩) | (go_at_call 73; refine (isValue_any _ _).mono ?_; rintro e w' ⟨rfl, rfl⟩))
              have hBX := box_v wr r 92
              have HB0 : Hid (Below w.heap.size w (wr.alloc (.cells #[.int .i64 r.t, .int .i64 r.a, .bool r.g, .int .i64 r.v] 92))) := below_then HB.out (below_new _ _)
              have hPB : C4 (wr.alloc (.cells #[.int .i64 r.t, .int .i64 r.a, .bool r.g, .int .i64 r.v] 92)) b (off + j * 4) p := hP.below (below_new _ _)
              clear hP
              generalize wr.alloc (.cells #[.int .i64 r.t, .int .i64 r.a, .bool r.g, .int .i64 r.v] 92) = wc at *
              generalize wr.heap.size = B at *
              obtain ⟨q0, q1, q2, q3⟩ := hBX
              simp only [Nat.zero_add] at q1 q2 q3
              clear x0 x1 x2 x3
              obtain ⟨p0, p1, p2, p3⟩ := hPB
              have hb0 : Below wc.heap.size wc wc.drew := (Below.refl _ _).drew
              go_region_held3 (fun w' => Below wc.heap.size wc w' ∧ w'.cell? ⟨B, 0, none⟩ = some (.int .i64 r.t) ∧ w'.cell? ⟨B, 1, none⟩ = some (.int .i64 r.a) ∧ w'.cell? ⟨B, 2, none⟩ = some (.bool r.g) ∧ w'.cell? ⟨B, 3, none⟩ = some (.int .i64 r.v) ∧ w'.cell? ⟨b, off + j * 4, none⟩ = some (.int .i64 p.t) ∧ w'.cell? ⟨b, off + j * 4 + 1, none⟩ = some (.int .i64 p.a) ∧ w'.cell? ⟨b, off + j * 4 + 2, none⟩ = some (.bool p.g) ∧ w'.cell? ⟨b, off + j * 4 + 3, none⟩ = some (.int .i64 p.v)) (go_keep)
                (first | (go_at_call 125; refine (goneWithValue_any _ _ _ _ _).mono ?_; rintro e wq ⟨rfl, hbq⟩; rw [hg']; have hU := below_then (w := wc) (by simp [*]) hbq; have hU0 := cell_below (B := B) (o := 0) (v := .int .i64 r.t) (by simp [*]) hbq; have hU1 := cell_below (B := B) (o := 1) (v := .int .i64 r.a) (by simp [*]) hbq; have hU2 := cell_below (B := B) (o := 2) (v := .bool r.g) (by simp [*]) hbq; have hU3 := cell_below (B := B) (o := 3) (v := .int .i64 r.v) (by simp [*]) hbq; have hU4 := cell_below (B := b) (o := off + j * 4) (v := .int .i64 p.t) (by simp [*]) hbq; have hU5 := cell_below (B := b) (o := off + j * 4 + 1) (v := .int .i64 p.a) (by simp [*]) hbq; have hU6 := cell_below (B := b) (o := off + j * 4 + 2) (v := .bool p.g) (by simp [*]) hbq; have hU7 := cell_below (B := b) (o := off + j * 4 + 3) (v := .int .i64 p.v) (by simp [*]) hbq) | (go_at_call 131; refine (isOlder_any r p _).mono ?_; rintro e wq ⟨rfl, hbq⟩; rw [ho]; have hU := below_then (w := wc) (by simp [*]) hbq; have hU0 := cell_below (B := B) (o := 0) (v := .int .i64 r.t) (by simp [*]) hbq; have hU1 := cell_below (B := B) (o := 1) (v := .int .i64 r.a) (by simp [*]) hbq; have hU2 := cell_below (B := B) (o := 2) (v := .bool r.g) (by simp [*]) hbq; have hU3 := cell_below (B := B) (o := 3) (v := .int .i64 r.v) (by simp [*]) hbq; have hU4 := cell_below (B := b) (o := off + j * 4) (v := .int .i64 p.t) (by simp [*]) hbq; have hU5 := cell_below (B := b) (o := off + j * 4 + 1) (v := .int .i64 p.a) (by simp [*]) hbq; have hU6 := cell_below (B := b) (o := off + j * 4 + 2) (v := .bool p.g) (by simp [*]) hbq; have hU7 := cell_below (B := b) (o := off + j * 4 + 3) (v := .int .i64 p.v) (by simp [*]) hbq))
              go_wp2_with fail
              go_roundw
              case rel => exact ⟨j + 1 + 1, hlt, by go_num, HE, below_then HB0.out (by assumption)⟩
              case measure => simp [intOf]; omega
            · have ho' : older (R (j + 1)) (R j) = false := by simpa using ho
              have HE : Hid (chf R n 0 = 1) := HA2.out.trans (if_pos (by simp only [vF, hg', Bool.false_or]; simp [ho']))
              clear HA2 hpos ho
              have ho := ho'
              clear ho'
              generalize R (j + 1) = r at *
              generalize R j = p at *
              obtain ⟨x0, x1, x2, x3⟩ := hX
              go_wp2_with (first | (go_at_call 85; refine (isTxn_any _ _).mono ?_; rintro e w' ⟨rfl, rfl⟩) | (go_at_call 86; refine (isAt_any _ _).mono ?_; rintro e w' ⟨rfl, rfl⟩) | (go_at_call 73; refine (isValue_any _ _).mono ?_; rintro e w' ⟨rfl, rfl⟩))
              have hBX := box_v wr r 92
              have HB0 : Hid (Below w.heap.size w (wr.alloc (.cells #[.int .i64 r.t, .int .i64 r.a, .bool r.g, .int .i64 r.v] 92))) := below_then HB.out (below_new _ _)
              have hPB : C4 (wr.alloc (.cells #[.int .i64 r.t, .int .i64 r.a, .bool r.g, .int .i64 r.v] 92)) b (off + j * 4) p := hP.below (below_new _ _)
              clear hP
              generalize wr.alloc (.cells #[.int .i64 r.t, .int .i64 r.a, .bool r.g, .int .i64 r.v] 92) = wc at *
              generalize wr.heap.size = B at *
              obtain ⟨q0, q1, q2, q3⟩ := hBX
              simp only [Nat.zero_add] at q1 q2 q3
              clear x0 x1 x2 x3
              obtain ⟨p0, p1, p2, p3⟩ := hPB
              have hb0 : Below wc.heap.size wc wc.drew := (Below.refl _ _).drew
              go_region_held3 (fun w' => Below wc.heap.size wc w' ∧ w'.cell? ⟨B, 0, none⟩ = some (.int .i64 r.t) ∧ w'.cell? ⟨B, 1, none⟩ = some (.int .i64 r.a) ∧ w'.cell? ⟨B, 2, none⟩ = some (.bool r.g) ∧ w'.cell? ⟨B, 3, none⟩ = some (.int .i64 r.v) ∧ w'.cell? ⟨b, off + j * 4, none⟩ = some (.int .i64 p.t) ∧ w'.cell? ⟨b, off + j * 4 + 1, none⟩ = some (.int .i64 p.a) ∧ w'.cell? ⟨b, off + j * 4 + 2, none⟩ = some (.bool p.g) ∧ w'.cell? ⟨b, off + j * 4 + 3, none⟩ = some (.int .i64 p.v)) (go_keep)
                (first | (go_at_call 125; refine (goneWithValue_any _ _ _ _ _).mono ?_; rintro e wq ⟨rfl, hbq⟩; rw [hg']; have hU := below_then (w := wc) (by simp [*]) hbq; have hU0 := cell_below (B := B) (o := 0) (v := .int .i64 r.t) (by simp [*]) hbq; have hU1 := cell_below (B := B) (o := 1) (v := .int .i64 r.a) (by simp [*]) hbq; have hU2 := cell_below (B := B) (o := 2) (v := .bool r.g) (by simp [*]) hbq; have hU3 := cell_below (B := B) (o := 3) (v := .int .i64 r.v) (by simp [*]) hbq; have hU4 := cell_below (B := b) (o := off + j * 4) (v := .int .i64 p.t) (by simp [*]) hbq; have hU5 := cell_below (B := b) (o := off + j * 4 + 1) (v := .int .i64 p.a) (by simp [*]) hbq; have hU6 := cell_below (B := b) (o := off + j * 4 + 2) (v := .bool p.g) (by simp [*]) hbq; have hU7 := cell_below (B := b) (o := off + j * 4 + 3) (v := .int .i64 p.v) (by simp [*]) hbq) | (go_at_call 131; refine (isOlder_any r p _).mono ?_; rintro e wq ⟨rfl, hbq⟩; rw [ho]; have hU := below_then (w := wc) (by simp [*]) hbq; have hU0 := cell_below (B := B) (o := 0) (v := .int .i64 r.t) (by simp [*]) hbq; have hU1 := cell_below (B := B) (o := 1) (v := .int .i64 r.a) (by simp [*]) hbq; have hU2 := cell_below (B := B) (o := 2) (v := .bool r.g) (by simp [*]) hbq; have hU3 := cell_below (B := B) (o := 3) (v := .int .i64 r.v) (by simp [*]) hbq; have hU4 := cell_below (B := b) (o := off + j * 4) (v := .int .i64 p.t) (by simp [*]) hbq; have hU5 := cell_below (B := b) (o := off + j * 4 + 1) (v := .int .i64 p.a) (by simp [*]) hbq; have hU6 := cell_below (B := b) (o := off + j * 4 + 2) (v := .bool p.g) (by simp [*]) hbq; have hU7 := cell_below (B := b) (o := off + j * 4 + 3) (v := .int .i64 p.v) (by simp [*]) hbq))
              go_wp2_with fail
              go_ret
              exact ⟨ret_int HE.out.symm, below_then HB0.out (by assumption)⟩
    · have HE2 : Hid (chf R n 0 = 0) := by
        refine HE.out.trans ?_
        rw [show n - k = 0 by omega, chf]
      have hnl : ¬ ((k : Int) < (n : Int)) := by omega
      clear HE
      go_wp2_with fail
      go_ret
      exact ⟨ret_int HE2.out.symm, HB.out⟩
theorem implChf_zero (R : Nat → Vr) (a : Option Addr) (cap : Nat) (w : World) : Calls Tryz.prog 113 #[.slice a 0 cap] w fun e w' => e = .returned (.int .i64 0) ∧ Below w.heap.size w w' := by
  go_enter Tryz.func113, Tryz.ntmps113
  go_wp2
  go_loop [3, 4, 10] (fun _ _ i => i = .int .i64 0) (fun _ _ _ => 0)
  case atStart => exact rfl
  case round =>
    obtain rfl := hrel
    go_wp2
    go_ret
    exact ⟨rfl, Below.refl _ _⟩
theorem implChF_any (n : Nat) (R : Nat → Vr) (a : Option Addr) (cap : Nat) (w : World) (hn : n ≤ 9223372036854775807) (h : VersAt w a n R) :
    Calls Tryz.prog 113 #[.slice a n cap] w fun e w' => e = .returned (.int .i64 (chF n R)) ∧ Below w.heap.size w w' := by
  by_cases h12 : 12 < n
  · have HE : Hid (chF n R = 2) := if_pos h12
    have h12' : (12 : Int) < (n : Int) := by omega
    clear h
    go_enter Tryz.func113, Tryz.ntmps113
    go_wp2_with fail
    go_ret
    exact ⟨ret_int HE.out.symm, Below.refl _ _⟩
  · rw [show chF n R = chf R n 0 from if_neg h12]
    rcases h with rfl | ⟨b, off, rfl, hl, hc⟩
    · exact implChf_zero R a cap w
    · exact implChf_some n R b off cap w (by omega) hl hc
/-- Only blocks of the set P are written, and new ones. -/
structure WritesP (P : Nat → Prop) (w w' : World) : Prop where
  os : w'.os = w.os
  tape : w'.tape = w.tape
  output : w'.output = w.output
  size : w.heap.size ≤ w'.heap.size
  block : ∀ k, k < w.heap.size → ¬ P k → w'.heap[k]? = w.heap[k]?
theorem WritesP.refl (P : Nat → Prop) (w : World) : WritesP P w w := ⟨rfl, rfl, rfl, Nat.le_refl _, fun _ _ _ => rfl⟩
theorem WritesP.trans {P : Nat → Prop} {a b c : World} (h : WritesP P a b) (k : WritesP P b c) : WritesP P a c :=
  ⟨k.os.trans h.os, k.tape.trans h.tape, k.output.trans h.output, Nat.le_trans h.size k.size, fun q hq hn => (k.block q (Nat.lt_of_lt_of_le hq h.size) hn).trans (h.block q hq hn)⟩
theorem WritesP.of {P : Nat → Prop} {lo hi : Nat} {w w' : World} (h : Writes lo hi w w') (hp : ∀ x, lo ≤ x → x < hi → P x) : WritesP P w w' :=
  ⟨h.os, h.tape, h.output, h.size, fun q hq hn => h.block q hq (by
    by_cases c : q < lo
    · exact .inl c
    · by_cases d : hi ≤ q
      · exact .inr d
      · exact absurd (hp q (by omega) (by omega)) hn)⟩
theorem WritesP.to {P : Nat → Prop} {lo hi : Nat} {w w' : World} (h : WritesP P w w') (hp : ∀ x, P x → lo ≤ x ∧ x < hi) : Writes lo hi w w' :=
  ⟨h.os, h.tape, h.output, h.size, fun q hq hn => h.block q hq fun c => by have := hp q c; omega⟩
theorem WritesP.below {P : Nat → Prop} {w w' : World} (h : Below w.heap.size w w') : WritesP P w w' :=
  WritesP.of (Writes.of_below (lo := w.heap.size) (hi := w.heap.size) h) fun x h1 h2 => by omega
/-- Txns in blocks of their own, all of the set P. -/
def OwnTxP (w : World) (P : Nat → Prop) (a : Option Addr) (n : Nat) (T : Nat → Tx) : Prop :=
  n = 0 ∨ ∃ b off, a = some ⟨b, off, none⟩ ∧ P b ∧ b < w.heap.size ∧ (∀ i, w.frozen? ⟨b, i, none⟩ = false) ∧ ∃ l h : Nat → Nat, (∀ i j, i < n → j < n → i ≠ j → h i ≤ l j ∨ h j ≤ l i) ∧
    ∀ i, i < n → (b < l i ∨ h i ≤ b) ∧ (∀ x, l i ≤ x → x < h i → P x) ∧ ∃ ai ci, CTx w b (off + i * 5) (T i) ai ci ∧ (T i).n ≤ ci ∧ OwnU w (l i) (h i) ai (T i).n (T i).U
theorem OwnTxP.at {w : World} {P : Nat → Prop} {a : Option Addr} {n : Nat} {T : Nat → Tx} (h : OwnTxP w P a n T) : TxsAt w a n T := by
  obtain h1 | ⟨b, off, ha, _, hl, _, l, h, _, hc⟩ := h
  · exact .inl h1
  · refine .inr ⟨b, off, ha, hl, fun i hi => ?_⟩
    obtain ⟨_, _, ai, ci, k1, k2, k3⟩ := hc i hi
    exact ⟨ai, ci, k1, k3.at, k2⟩
theorem OwnU_keepTx {w w' : World} {l h : Nat} {a : Option Addr} {n : Nat} {U : Nat → Ud} (h0 : OwnU w l h a n U) (hs : w.heap.size ≤ w'.heap.size) (hk : ∀ x, l ≤ x → x < h → x < w.heap.size → w'.heap[x]? = w.heap[x]?) : OwnU w' l h a n U := by
  obtain ⟨o0, o1 | ⟨b, off, rfl, p1, p2, p3⟩⟩ := h0
  · exact ⟨by omega, .inl o1⟩
  · have e := hk b p1 p2 (by omega)
    exact ⟨by omega, .inr ⟨b, off, rfl, p1, p2, rowU_block p3 e⟩⟩
theorem OwnTxP.keep {w w' : World} {P : Nat → Prop} {a : Option Addr} {n : Nat} {T : Nat → Tx} (h : OwnTxP w P a n T) (hs : w.heap.size ≤ w'.heap.size) (hk : ∀ x, P x → x < w.heap.size → w'.heap[x]? = w.heap[x]?) : OwnTxP w' P a n T := by
  obtain h1 | ⟨b, off, ha, hp, hl, hf, l, h, hj, hc⟩ := h
  · exact .inl h1
  · have e := hk b hp hl
    refine .inr ⟨b, off, ha, hp, Nat.lt_of_lt_of_le hl hs, fun i => (World.frozen?_of_block (w := w) (a := ⟨b, i, none⟩) e).trans (hf i), l, h, hj, fun i hi => ?_⟩
    obtain ⟨k0, k1, ai, ci, k2, k3, k4⟩ := hc i hi
    exact ⟨k0, k1, ai, ci, k2.block e, k3, OwnU_keepTx k4 hs fun x h1 h2 h3 => hk x (k1 x h1 h2) h3⟩
theorem OwnTxP.congr {w : World} {P : Nat → Prop} {a : Option Addr} {n : Nat} {T T' : Nat → Tx} (h : OwnTxP w P a n T) (e : ∀ i, i < n → T i = T' i) : OwnTxP w P a n T' := by
  obtain h1 | ⟨b, off, ha, h2, hl, hf, l, h, hj, hc⟩ := h
  · exact .inl h1
  · exact .inr ⟨b, off, ha, h2, hl, hf, l, h, hj, fun i hi => by rw [← e i hi]; exact hc i hi⟩
theorem OwnTx.toP {w : World} {lo hi : Nat} {a : Option Addr} {n : Nat} {T : Nat → Tx} (h : OwnTx w lo hi a n T) : OwnTxP w (fun x => lo ≤ x ∧ x < hi) a n T := by
  obtain ⟨h0, h1 | ⟨b, off, ha, hlo, hl, hf, l, h, hj, hc⟩⟩ := h
  · exact .inl h1
  · refine .inr ⟨b, off, ha, ⟨hlo, hl⟩, by omega, hf, l, h, hj, fun i hi => ?_⟩
    obtain ⟨k0, k1, r⟩ := hc i hi
    exact ⟨k0, fun x x1 x2 => by omega, r⟩
theorem OwnTxP.pick {w : World} {P : Nat → Prop} {a : Option Addr} {n : Nat} {T : Nat → Tx} (h : OwnTxP w P a n T) {j : Nat} (hj : j < n) :
    ∃ b off ai ci l h, a = some ⟨b, off, none⟩ ∧ P b ∧ b < w.heap.size ∧ (∀ i, w.frozen? ⟨b, i, none⟩ = false) ∧ CTx w b (off + j * 5) (T j) ai ci ∧ (T j).n ≤ ci ∧ (b < l ∨ h ≤ b) ∧ (∀ x, l ≤ x → x < h → P x) ∧ OwnU w l h ai (T j).n (T j).U ∧
      ∀ t w1, t.n = (T j).n → Writes l h (hdTx w b (off + j * 5) t) w1 → OwnU w1 l h ai t.n t.U → OwnTxP w1 P a n (upf T j t) := by
  obtain h1 | ⟨b, off, ha, hlo, hl, hf, l, h, hd, hc⟩ := h
  · omega
  obtain ⟨k0, k1, ai, ci, k2, k3, k4⟩ := hc j hj
  refine ⟨b, off, ai, ci, l j, h j, ha, hlo, hl, hf, k2, k3, k0, k1, k4, fun t w1 hn hw hr => ?_⟩
  have hsz : w.heap.size ≤ w1.heap.size := by have := hw.size; rw [hdTx_size] at this; exact this
  have eb : w1.heap[b]? = (hdTx w b (off + j * 5) t).heap[b]? := hw.block b (by rw [hdTx_size]; omega) (by omega)
  have cb : ∀ q, w1.cell? ⟨b, q, none⟩ = (hdTx w b (off + j * 5) t).cell? ⟨b, q, none⟩ := fun q => World.cell?_of_block (w := hdTx w b (off + j * 5) t) (a := ⟨b, q, none⟩) eb
  refine .inr ⟨b, off, ha, hlo, Nat.lt_of_lt_of_le hl hsz, fun i => ?_, l, h, hd, fun i hi => ?_⟩
  · rw [World.frozen?_of_block (w := hdTx w b (off + j * 5) t) (a := ⟨b, i, none⟩) eb, hdTx_frozen]; exact hf i
  · obtain ⟨m0, m1, ai', ci', m2, m3, m4⟩ := hc i hi
    by_cases e : i = j
    · subst e
      rw [upf_eq]
      have es : ai' = ai ∧ ci' = ci := by
        have x1 := k2.2.2.2.2
        have x2 := m2.2.2.2.2
        rw [x1] at x2
        simp only [Option.some.injEq, Value.slice.injEq] at x2
        exact ⟨x2.1.symm, x2.2.2.symm⟩
      exact ⟨m0, m1, ai, ci, (hdTx_same k2 hn).block eb, by rw [hn]; exact k3, hr⟩
    · rw [upf_ne _ _ e]
      refine ⟨m0, m1, ai', ci', ?_, m3, ?_⟩
      · have g : ∀ q, q < 5 → w1.cell? ⟨b, off + i * 5 + q, none⟩ = w.cell? ⟨b, off + i * 5 + q, none⟩ := fun q hq => (cb _).trans (hdTx_far (by omega))
        obtain ⟨h0, h1, h2, h3, h4⟩ := m2
        exact ⟨(g 0 (by omega)).trans h0, (g 1 (by omega)).trans h1, (g 2 (by omega)).trans h2, (g 3 (by omega)).trans h3, (g 4 (by omega)).trans h4⟩
      · have hdd := hd i j hi hj e
        have m5 := m4.writes (w' := hdTx w b (off + j * 5) t) (lo' := b) (hi' := b + 1) (hdTx_writes (Writes.refl _ _ _) (Nat.le_refl _) (Nat.lt_succ_self _)) (by omega)
        exact m5.writes hw (by omega)
set_option maxHeartbeats 2000000 in
theorem markTxnS_P (n : Nat) (T : Nat → Tx) (a : Option Addr) (cap : Nat) (P : Nat → Prop) (m : Int) (w : World) (hn : n ≤ 1048576) (hs : smTx T n ≤ 1048576) (hm1 : 0 ≤ m) (hm2 : m ≤ 16777216) (h : OwnTxP w P a n T) :
    Calls Tryz.prog 34 #[.slice a n cap, .int .i64 m] w fun e w' => e = .returned (.int .i64 (m + sTx T n)) ∧ WritesP P w w' ∧ OwnTxP w' P a n (mTx m T) := by
  have HO : Hid (OwnTxP w P a n T) := h
  clear h
  go_enter Tryz.func34, Tryz.ntmps34
  go_wp2
  go_loopw [1, 5] (fun q i wr => ∃ k : Nat, k ≤ n ∧ i = .int .i64 k ∧ q = .int .i64 (m + sTx T k) ∧ Hid (WritesP P w wr) ∧ Hid (OwnTxP wr P a n (pref (mTx m T) T k))) (fun _ i _ => n - (intOf i).toNat)
  case atStart => exact ⟨0, Nat.zero_le _, rfl, by simp [sTx, smf], WritesP.refl _ _, by rw [pref_zero]; exact HO⟩
  case round =>
    obtain ⟨k, hk0, rfl, rfl, HB, HP⟩ := hrel
    by_cases hlt : k < n
    · obtain ⟨b, off, ai, ci, l, h, rfl, hb1, hb2, hf, hC, hci, hbd, hr, hO, hU⟩ := HP.out.pick hlt
      rw [pref_at] at hC hci hO hU
      have hLk := smf_ge (fun i => (T i).n) n k hlt
      have hsk := smf_le (fun i => (T i).n) (n := n) (i := k) (by omega)
      have hstep : (sTx T (k + 1) : Int) = sTx T k + (T k).n * 4 + 4 := by simp [sTx, smf]; omega
      have hbS : sTx T k = smTx T k * 4 + k * 4 := sTx_eq T k
      have HM : Hid (mTx m T k = ⟨m + sTx T k, m + sTx T k + 1, m + sTx T k + 2, m + sTx T k + 3, (T k).n, mU (m + sTx T k + 4)⟩) := rfl
      have hSb : (sTx T k : Int) ≤ 8388608 := by unfold smTx at *; omega
      have hS0 : 0 ≤ (sTx T k : Int) := by omega
      have hTk : (T k).n ≤ 1048576 := by unfold smTx at *; omega
      generalize hS : (sTx T k : Int) = S at *
      have HU : Hid (∀ t w1, t.n = (T k).n → Writes l h (hdTx wr b (off + k * 5) t) w1 → OwnU w1 l h ai t.n t.U → OwnTxP w1 P (some ⟨b, off, none⟩) n (upf (pref (mTx m T) T k) k t)) := hU
      have HO2 : Hid (OwnU (hdTx wr b (off + k * 5) ⟨m + S, m + S + 1, m + S + 2, m + S + 3, (T k).n, mU (m + S + 4)⟩) l h ai (T k).n (T k).U) := hO.writes (hdTx_writes (Writes.refl _ _ _) (Nat.le_refl _) (Nat.lt_succ_self _)) (by omega)
      have HG : Hid (P b ∧ ∀ x, l ≤ x → x < h → P x) := ⟨hb1, hr⟩
      obtain ⟨q0, q1, q2, q3, q4⟩ := hC
      have g1 : IntKind.i64.wrap (m + S + 1) = m + S + 1 := by rw [IntKind.wrap_i64]; omega
      have g2 : IntKind.i64.wrap (m + S + 1 + 1) = m + S + 2 := by rw [IntKind.wrap_i64]; omega
      have g3 : IntKind.i64.wrap (m + S + 2 + 1) = m + S + 3 := by rw [IntKind.wrap_i64]; omega
      have g4 : IntKind.i64.wrap (m + S + 3 + 1) = m + S + 4 := by rw [IntKind.wrap_i64]; omega
      clear HP hO hU hb1 hb2 hbd hr hbS hS hLk hsk
      go_wp2_with fail
      refine (markUndoS_any (T k).n (T k).U ai ci l h (m + S + 4) _ (by omega) (by omega) (by omega) HO2.out).mono ?_
      rintro e w1 ⟨rfl, hw, hr⟩
      have HW : Hid (Writes l h (hdTx wr b (off + k * 5) ⟨m + S, m + S + 1, m + S + 2, m + S + 3, (T k).n, mU (m + S + 4)⟩) w1) := hw
      have HR1 : Hid (OwnU w1 l h ai (T k).n (mU (m + S + 4))) := hr
      clear hw hr
      go_wp2_with fail
      go_roundw
      case rel =>
        have H := HU.out ⟨m + S, m + S + 1, m + S + 2, m + S + 3, (T k).n, mU (m + S + 4)⟩ w1 rfl HW.out HR1.out
        rw [← HM.out, pref_upf] at H
        obtain ⟨g1, g2⟩ := HG.out
        have HB2 : WritesP P wr (hdTx wr b (off + k * 5) ⟨m + S, m + S + 1, m + S + 2, m + S + 3, (T k).n, mU (m + S + 4)⟩) := WritesP.of (hdTx_writes (Writes.refl _ _ _) (Nat.le_refl b) (Nat.lt_succ_self b)) fun x x1 x2 => (show x = b by omega) ▸ g1
        exact ⟨k + 1, hlt, by go_num, by rw [hstep]; go_num, HB.out.trans (HB2.trans (WritesP.of HW.out g2)), H⟩
      case measure => simp [intOf]; omega
    · have hkn : k = n := by omega
      have HO2 : Hid (OwnTxP wr P a n (mTx m T)) := HP.out.congr fun i hi => pref_lt _ _ (by omega)
      have hnl : ¬ ((k : Int) < (n : Int)) := by omega
      go_wp2_with fail
      go_ret
      exact ⟨ret_int (by first | rfl | rw [hkn]), HB.out, HO2.out⟩
/-- Rows in blocks of their own, all of the set P. -/
def OwnRwP (w : World) (P : Nat → Prop) (a : Option Addr) (n : Nat) (T : Nat → Rw) : Prop :=
  n = 0 ∨ ∃ b off, a = some ⟨b, off, none⟩ ∧ P b ∧ b < w.heap.size ∧ (∀ i, w.frozen? ⟨b, i, none⟩ = false) ∧ ∃ l h : Nat → Nat, (∀ i j, i < n → j < n → i ≠ j → h i ≤ l j ∨ h j ≤ l i) ∧
    ∀ i, i < n → (b < l i ∨ h i ≤ b) ∧ (∀ x, l i ≤ x → x < h i → P x) ∧ ∃ ai ci, CRw w b (off + i * 2) (T i) ai ci ∧ (T i).n ≤ ci ∧ Own4 w (l i) (h i) ai (T i).n (T i).U
theorem OwnRwP.at {w : World} {P : Nat → Prop} {a : Option Addr} {n : Nat} {T : Nat → Rw} (h : OwnRwP w P a n T) : RwsAt w a n T := by
  obtain h1 | ⟨b, off, ha, _, hl, _, l, h, _, hc⟩ := h
  · exact .inl h1
  · refine .inr ⟨b, off, ha, hl, fun i hi => ?_⟩
    obtain ⟨_, _, ai, ci, k1, k2, k3⟩ := hc i hi
    exact ⟨ai, ci, k1, k3.at, k2⟩
theorem Own4_keepRw {w w' : World} {l h : Nat} {a : Option Addr} {n : Nat} {U : Nat → Vr} (h0 : Own4 w l h a n U) (hs : w.heap.size ≤ w'.heap.size) (hk : ∀ x, l ≤ x → x < h → x < w.heap.size → w'.heap[x]? = w.heap[x]?) : Own4 w' l h a n U := by
  obtain ⟨o0, o1 | ⟨b, off, rfl, p1, p2, p3⟩⟩ := h0
  · exact ⟨by omega, .inl o1⟩
  · have e := hk b p1 p2 (by omega)
    exact ⟨by omega, .inr ⟨b, off, rfl, p1, p2, row4_block p3 e⟩⟩
theorem OwnRwP.keep {w w' : World} {P : Nat → Prop} {a : Option Addr} {n : Nat} {T : Nat → Rw} (h : OwnRwP w P a n T) (hs : w.heap.size ≤ w'.heap.size) (hk : ∀ x, P x → x < w.heap.size → w'.heap[x]? = w.heap[x]?) : OwnRwP w' P a n T := by
  obtain h1 | ⟨b, off, ha, hp, hl, hf, l, h, hj, hc⟩ := h
  · exact .inl h1
  · have e := hk b hp hl
    refine .inr ⟨b, off, ha, hp, Nat.lt_of_lt_of_le hl hs, fun i => (World.frozen?_of_block (w := w) (a := ⟨b, i, none⟩) e).trans (hf i), l, h, hj, fun i hi => ?_⟩
    obtain ⟨k0, k1, ai, ci, k2, k3, k4⟩ := hc i hi
    exact ⟨k0, k1, ai, ci, k2.block e, k3, Own4_keepRw k4 hs fun x h1 h2 h3 => hk x (k1 x h1 h2) h3⟩
theorem OwnRwP.mono {w : World} {P P' : Nat → Prop} {a : Option Addr} {n : Nat} {T : Nat → Rw} (h : OwnRwP w P a n T) (hp : ∀ x, P x → P' x) : OwnRwP w P' a n T := by
  obtain h1 | ⟨b, off, ha, h2, hl, hf, l, h, hj, hc⟩ := h
  · exact .inl h1
  · refine .inr ⟨b, off, ha, hp _ h2, hl, hf, l, h, hj, fun i hi => ?_⟩
    obtain ⟨k0, k1, r⟩ := hc i hi
    exact ⟨k0, fun x x1 x2 => hp x (k1 x x1 x2), r⟩
theorem OwnRwP.congr {w : World} {P : Nat → Prop} {a : Option Addr} {n : Nat} {T T' : Nat → Rw} (h : OwnRwP w P a n T) (e : ∀ i, i < n → T i = T' i) : OwnRwP w P a n T' := by
  obtain h1 | ⟨b, off, ha, h2, hl, hf, l, h, hj, hc⟩ := h
  · exact .inl h1
  · exact .inr ⟨b, off, ha, h2, hl, hf, l, h, hj, fun i hi => by rw [← e i hi]; exact hc i hi⟩
theorem OwnRw.toP {w : World} {lo hi : Nat} {a : Option Addr} {n : Nat} {T : Nat → Rw} (h : OwnRw w lo hi a n T) : OwnRwP w (fun x => lo ≤ x ∧ x < hi) a n T := by
  obtain ⟨h0, h1 | ⟨b, off, ha, hlo, hl, hf, l, h, hj, hc⟩⟩ := h
  · exact .inl h1
  · refine .inr ⟨b, off, ha, ⟨hlo, hl⟩, by omega, hf, l, h, hj, fun i hi => ?_⟩
    obtain ⟨k0, k1, r⟩ := hc i hi
    exact ⟨k0, fun x x1 x2 => by omega, r⟩
theorem OwnRwP.pick {w : World} {P : Nat → Prop} {a : Option Addr} {n : Nat} {T : Nat → Rw} (h : OwnRwP w P a n T) {j : Nat} (hj : j < n) :
    ∃ b off ai ci l h, a = some ⟨b, off, none⟩ ∧ P b ∧ b < w.heap.size ∧ (∀ i, w.frozen? ⟨b, i, none⟩ = false) ∧ CRw w b (off + j * 2) (T j) ai ci ∧ (T j).n ≤ ci ∧ (b < l ∨ h ≤ b) ∧ (∀ x, l ≤ x → x < h → P x) ∧ Own4 w l h ai (T j).n (T j).U ∧
      ∀ t w1, t.n = (T j).n → Writes l h (hdRw w b (off + j * 2) t) w1 → Own4 w1 l h ai t.n t.U → OwnRwP w1 P a n (upf T j t) := by
  obtain h1 | ⟨b, off, ha, hlo, hl, hf, l, h, hd, hc⟩ := h
  · omega
  obtain ⟨k0, k1, ai, ci, k2, k3, k4⟩ := hc j hj
  refine ⟨b, off, ai, ci, l j, h j, ha, hlo, hl, hf, k2, k3, k0, k1, k4, fun t w1 hn hw hr => ?_⟩
  have hsz : w.heap.size ≤ w1.heap.size := by have := hw.size; rw [hdRw_size] at this; exact this
  have eb : w1.heap[b]? = (hdRw w b (off + j * 2) t).heap[b]? := hw.block b (by rw [hdRw_size]; omega) (by omega)
  have cb : ∀ q, w1.cell? ⟨b, q, none⟩ = (hdRw w b (off + j * 2) t).cell? ⟨b, q, none⟩ := fun q => World.cell?_of_block (w := hdRw w b (off + j * 2) t) (a := ⟨b, q, none⟩) eb
  refine .inr ⟨b, off, ha, hlo, Nat.lt_of_lt_of_le hl hsz, fun i => ?_, l, h, hd, fun i hi => ?_⟩
  · rw [World.frozen?_of_block (w := hdRw w b (off + j * 2) t) (a := ⟨b, i, none⟩) eb, hdRw_frozen]; exact hf i
  · obtain ⟨m0, m1, ai', ci', m2, m3, m4⟩ := hc i hi
    by_cases e : i = j
    · subst e
      rw [upf_eq]
      have es : ai' = ai ∧ ci' = ci := by
        have x1 := k2.2
        have x2 := m2.2
        rw [x1] at x2
        simp only [Option.some.injEq, Value.slice.injEq] at x2
        exact ⟨x2.1.symm, x2.2.2.symm⟩
      exact ⟨m0, m1, ai, ci, (hdRw_same k2 hn).block eb, by rw [hn]; exact k3, hr⟩
    · rw [upf_ne _ _ e]
      refine ⟨m0, m1, ai', ci', ?_, m3, ?_⟩
      · have g : ∀ q, q < 2 → w1.cell? ⟨b, off + i * 2 + q, none⟩ = w.cell? ⟨b, off + i * 2 + q, none⟩ := fun q hq => (cb _).trans (hdRw_far (by omega))
        obtain ⟨h0, h1⟩ := m2
        exact ⟨(g 0 (by omega)).trans h0, (g 1 (by omega)).trans h1⟩
      · have hdd := hd i j hi hj e
        have m5 := m4.writes (w' := hdRw w b (off + j * 2) t) (lo' := b) (hi' := b + 1) (hdRw_writes (Writes.refl _ _ _) (Nat.le_refl _) (Nat.lt_succ_self _)) (by omega)
        exact m5.writes hw (by omega)
set_option maxHeartbeats 2000000 in
theorem markRowS_P (n : Nat) (T : Nat → Rw) (a : Option Addr) (cap : Nat) (P : Nat → Prop) (m : Int) (w : World) (hn : n ≤ 1048576) (hs : smRw T n ≤ 1048576) (hm1 : 0 ≤ m) (hm2 : m ≤ 16777216) (h : OwnRwP w P a n T) :
    Calls Tryz.prog 35 #[.slice a n cap, .int .i64 m] w fun e w' => e = .returned (.int .i64 (m + sRw T n)) ∧ WritesP P w w' ∧ OwnRwP w' P a n (mRw m T) := by
  have HO : Hid (OwnRwP w P a n T) := h
  clear h
  go_enter Tryz.func35, Tryz.ntmps35
  go_wp2
  go_loopw [1, 5] (fun q i wr => ∃ k : Nat, k ≤ n ∧ i = .int .i64 k ∧ q = .int .i64 (m + sRw T k) ∧ Hid (WritesP P w wr) ∧ Hid (OwnRwP wr P a n (pref (mRw m T) T k))) (fun _ i _ => n - (intOf i).toNat)
  case atStart => exact ⟨0, Nat.zero_le _, rfl, by simp [sRw, smf], WritesP.refl _ _, by rw [pref_zero]; exact HO⟩
  case round =>
    obtain ⟨k, hk0, rfl, rfl, HB, HP⟩ := hrel
    by_cases hlt : k < n
    · obtain ⟨b, off, ai, ci, l, h, rfl, hb1, hb2, hf, hC, hci, hbd, hr, hO, hU⟩ := HP.out.pick hlt
      rw [pref_at] at hC hci hO hU
      have hLk := smf_ge (fun i => (T i).n) n k hlt
      have hsk := smf_le (fun i => (T i).n) (n := n) (i := k) (by omega)
      have hstep : (sRw T (k + 1) : Int) = sRw T k + (T k).n * 4 + 1 := by simp [sRw, smf]; omega
      have hbS : sRw T k = smRw T k * 4 + k * 1 := sRw_eq T k
      have HM : Hid (mRw m T k = ⟨m + sRw T k, (T k).n, mV (m + sRw T k + 1)⟩) := rfl
      have hSb : (sRw T k : Int) ≤ 5242880 := by unfold smRw at *; omega
      have hS0 : 0 ≤ (sRw T k : Int) := by omega
      have hTk : (T k).n ≤ 1048576 := by unfold smRw at *; omega
      generalize hS : (sRw T k : Int) = S at *
      have HU : Hid (∀ t w1, t.n = (T k).n → Writes l h (hdRw wr b (off + k * 2) t) w1 → Own4 w1 l h ai t.n t.U → OwnRwP w1 P (some ⟨b, off, none⟩) n (upf (pref (mRw m T) T k) k t)) := hU
      have HO2 : Hid (Own4 (hdRw wr b (off + k * 2) ⟨m + S, (T k).n, mV (m + S + 1)⟩) l h ai (T k).n (T k).U) := hO.writes (hdRw_writes (Writes.refl _ _ _) (Nat.le_refl _) (Nat.lt_succ_self _)) (by omega)
      have HG : Hid (P b ∧ ∀ x, l ≤ x → x < h → P x) := ⟨hb1, hr⟩
      obtain ⟨q0, q1⟩ := hC
      have g1 : IntKind.i64.wrap (m + S + 1) = m + S + 1 := by rw [IntKind.wrap_i64]; omega
      clear HP hO hU hb1 hb2 hbd hr hbS hS hLk hsk
      go_wp2_with fail
      refine (markVersionS_any (T k).n (T k).U ai ci l h (m + S + 1) _ (by omega) (by omega) (by omega) HO2.out).mono ?_
      rintro e w1 ⟨rfl, hw, hr⟩
      have HW : Hid (Writes l h (hdRw wr b (off + k * 2) ⟨m + S, (T k).n, mV (m + S + 1)⟩) w1) := hw
      have HR1 : Hid (Own4 w1 l h ai (T k).n (mV (m + S + 1))) := hr
      clear hw hr
      go_wp2_with fail
      go_roundw
      case rel =>
        have H := HU.out ⟨m + S, (T k).n, mV (m + S + 1)⟩ w1 rfl HW.out HR1.out
        rw [← HM.out, pref_upf] at H
        obtain ⟨g1, g2⟩ := HG.out
        have HB2 : WritesP P wr (hdRw wr b (off + k * 2) ⟨m + S, (T k).n, mV (m + S + 1)⟩) := WritesP.of (hdRw_writes (Writes.refl _ _ _) (Nat.le_refl b) (Nat.lt_succ_self b)) fun x x1 x2 => (show x = b by omega) ▸ g1
        exact ⟨k + 1, hlt, by go_num, by rw [hstep]; go_num, HB.out.trans (HB2.trans (WritesP.of HW.out g2)), H⟩
      case measure => simp [intOf]; omega
    · have hkn : k = n := by omega
      have HO2 : Hid (OwnRwP wr P a n (mRw m T)) := HP.out.congr fun i hi => pref_lt _ _ (by omega)
      have hnl : ¬ ((k : Int) < (n : Int)) := by omega
      go_wp2_with fail
      go_ret
      exact ⟨ret_int (by first | rfl | rw [hkn]), HB.out, HO2.out⟩
end Go.Proofs.YtabkgncnanlapaaGreat
