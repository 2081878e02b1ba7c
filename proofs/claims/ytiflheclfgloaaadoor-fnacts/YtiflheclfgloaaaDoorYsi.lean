/- The program's ParseAct. -/
import Derived.Test.YtiflheclfgloaaaDoorYsb
import Derived.Test.YtiflheclfgloaaaDoorYse
import Derived.Test.YtiflheclfgloaaaDoorYsh
import Derived.Test.YtiflheclfgloaaaDoorFault
namespace Go.Proofs.YtiflheclfgloaaaDoor
open Go.RowKit Go.Deep
set_option linter.unusedVariables false
set_option maxRecDepth 20000

theorem isActKind_any (k : Nat) (hk : k ≤ 7) (w : World) : Calls Tryd.prog 19 #[.int .i64 k] w fun e w' => e = .returned (.bool (decide (k ≠ 0))) ∧ w' = w := by
  have HI : Hid (inB k 1 7 = decide (k ≠ 0)) := by
    show inB k 1 7 = decide (k ≠ 0)
    unfold inB
    by_cases h : k = 0
    · subst h; rfl
    · have h1 : (1 : Int) ≤ k := by omega
      have h2 : (k : Int) ≤ 7 := by omega
      simp [h, h1, h2]
  go_enter Tryd.func19, Tryd.ntmps19
  go_wp2_with fail
  refine (within_any _ _ _ _).mono ?_
  rintro e w' ⟨rfl, rfl⟩
  go_wp2_with fail
  go_ret
  exact ⟨by rw [HI.out]; rfl, rfl⟩
/-- The answer of ParseAct. -/
def actOf (L : List ByteArray) : Array Value := if okA L = true then #[.int .i64 0, .int .i64 (kindP L), .int .i64 (nA L 1), .int .i64 (nA L 2), .int .i64 (nA L 3)] else #[.int .i64 5, .int .i64 0, .int .i64 0, .int .i64 0, .int .i64 0]
theorem actOf_no {L : List ByteArray} (h : okA L = false) : actOf L = #[.int .i64 5, .int .i64 0, .int .i64 0, .int .i64 0, .int .i64 0] := by simp [actOf, h]
theorem actOf_yes {L : List ByteArray} (h : okA L = true) : actOf L = #[.int .i64 0, .int .i64 (kindP L), .int .i64 (nA L 1), .int .i64 (nA L 2), .int .i64 (nA L 3)] := by simp [actOf, h]
/-- The numbers so far. -/
def nk (L : List ByteArray) (k j : Nat) : Int := if j < k then numV (sg L (j + 1)) else 0
/-- The answer's box, the array of numbers, the words. -/
def Paw (w wr : World) (B pb po : Nat) (L : List ByteArray) (k : Nat) : Prop :=
  Below w.heap.size w wr ∧ w.heap.size < pb ∧ pb < B ∧ (∀ o, o < 5 → wr.cell? ⟨w.heap.size, o, none⟩ = some (.int .i64 0) ∧ wr.frozen? ⟨w.heap.size, o, none⟩ = false) ∧
    (∀ j, j < 3 → wr.cell? ⟨B, j, none⟩ = some (.int .i64 (nk L k j)) ∧ wr.frozen? ⟨B, j, none⟩ = false) ∧ (∀ i, i < L.length → wr.cell? ⟨pb, po + i, none⟩ = some (.string (sg L i)))
theorem Paw.put {w wr : World} {B pb po k : Nat} {L : List ByteArray} (h : Paw w wr B pb po L k) (hk : k < 3) : Paw w (wr.setCell ⟨B, k, none⟩ (.int .i64 (numV (sg L (k + 1))))) B pb po L (k + 1) := by
  obtain ⟨h1, h2, h3, h4, h5, h6⟩ := h
  refine ⟨Below.setCell h1 (by simp; omega) _, h2, h3, fun o ho => ?_, fun j hj => ?_, fun i hi => ?_⟩
  · rw [World.cell?_setCell_far _ _ _ _ (by simp; omega), World.frozen?_setCell]
    exact h4 o ho
  · rw [World.frozen?_setCell]
    refine ⟨?_, (h5 j hj).2⟩
    by_cases e : j = k
    · subst e; rw [setS (h5 j hj).1]; simp [nk]
    · rw [setO (by omega), (h5 j hj).1]
      have : (j < k + 1) ↔ (j < k) := by omega
      simp only [nk, this]
  · rw [World.cell?_setCell_far _ _ _ _ (by simp; omega)]
    exact h6 i hi
set_option maxHeartbeats 1000000 in
theorem implParse_any (s : ByteArray) (w : World) (hn : s.size ≤ 1048576) (hT : TabAt w) :
    Calls Tryd.prog 7 #[.string s] w fun e w' => e = .returned (.agg (actOf (wds s))) ∧ Below w.heap.size w w' := by
  have HT : Hid (TabAt w) := hT
  have hlen := wds_len s
  obtain ⟨L, hL⟩ : ∃ L, wds s = L := ⟨_, rfl⟩
  have HLW : Hid (wds s = L) := hL
  rw [hL] at hlen ⊢
  clear hT hL
  go_enter Tryd.func7, Tryd.ntmps7
  go_wp2_with fail
  refine (wordsOf_any s _ hn).mono ?_
  rintro e w1 ⟨v, rfl, hB1, hO1⟩
  rw [HLW.out] at hO1
  obtain ⟨pa, pcap, rfl, hpc, hat⟩ := strs_of_own hO1
  have hlt1 := hO1.lt
  have HB1 : Hid (Below w.heap.size w w1) := (below_new w _).trans (hB1.mono (by simp))
  have HZ : Hid (∀ o, o < 5 → w1.cell? ⟨w.heap.size, o, none⟩ = some (.int .i64 0) ∧ w1.frozen? ⟨w.heap.size, o, none⟩ = false) := fun o ho => by
    obtain ⟨h1, h2⟩ := bcell hB1
    rw [h1 _ _ (by simp), h2 _ _ (by simp)]
    match o, ho with
    | 0, _ => simp
    | 1, _ => simp
    | 2, _ => simp
    | 3, _ => simp
    | 4, _ => simp
  clear hB1 hO1
  go_wp2_with fail
  refine (kindOf_any L _ _ _ (by omega) (HT.out.below HB1.out) hat).mono ?_
  rintro e w2 ⟨rfl, hB2⟩
  have hk7 := kindP_le L
  go_wp2_with fail
  refine (isActKind_any _ hk7 _).mono ?_
  rintro e w3 ⟨rfl, hq⟩
  have hq2 := hq.symm
  clear hq
  subst hq2
  have HB2 : Hid (Below w.heap.size w w2) := HB1.out.trans (hB2.mono HB1.out.size)
  have HZ2 : Hid (∀ o, o < 5 → w2.cell? ⟨w.heap.size, o, none⟩ = some (.int .i64 0) ∧ w2.frozen? ⟨w.heap.size, o, none⟩ = false) := fun o ho => by
    obtain ⟨h1, h2⟩ := bcell hB2
    have h3 := Go.block_lt_of_cell (HZ.out o ho).1
    rw [h1 _ _ h3, h2 _ _ h3]
    exact HZ.out o ho
  have HS2 : Hid (StrsAt w2 (some ⟨0, 0, none⟩) L ∨ True) := .inr trivial
  by_cases hk0 : kindP L = 0
  · have hdk : decide (kindP L ≠ 0) = false := by simp [hk0]
    have HA : Hid (actOf L = #[.int .i64 5, .int .i64 0, .int .i64 0, .int .i64 0, .int .i64 0]) := actOf_no (by simp [okA, hk0])
    clear hk0
    obtain ⟨z0, f0⟩ := HZ2.out 0 (by omega)
    obtain ⟨z1, f1⟩ := HZ2.out 1 (by omega)
    obtain ⟨z2, f2⟩ := HZ2.out 2 (by omega)
    obtain ⟨z3, f3⟩ := HZ2.out 3 (by omega)
    obtain ⟨z4, f4⟩ := HZ2.out 4 (by omega)
    go_wp2_with fail
    refine bodyPost_ret (v := .agg #[.int .i64 5, .int .i64 0, .int .i64 0, .int .i64 0, .int .i64 0]) (by simp [results, Tryd.results7, go_sem, z0, z1, z2, z3, z4]) rfl ?_
    refine ⟨by rw [HA.out], ?_⟩
    repeat (first | with_reducible exact HB2.out | with_reducible refine Below.setCell ?_ (by first | omega | (simp <;> omega)) _)
  · have hdk : decide (kindP L ≠ 0) = true := by simp [hk0]
    obtain ⟨hll, hname, hk1⟩ := kindP_len hk0
    have hfc := fc_le (kindP L) hk7
    rcases hat with h | ⟨pb, po, rfl, hpb, hcell⟩
    · omega
    have hpl : w.heap.size + 1 ≤ pb := by
      have := (hlt1 pb (by simp [Value.ownBlock])).1
      simpa using this
    have hB2s := hB2.size
    have HP2 : Hid (∀ i, i < L.length → w2.cell? ⟨pb, po + i, none⟩ = some (.string (sg L i))) := fun i hi => cell_below (hcell i hi) hB2
    clear hcell HZ HB1 hB2
    have H0 : Hid (Paw w (w2.alloc (.cells #[.int .i64 0, .int .i64 0, .int .i64 0] 46)) w2.heap.size pb po L 0) := by
      refine ⟨HB2.out.alloc HB2.out.size _, by omega, by omega, fun o ho => ?_, fun j hj => ?_, fun i hi => cell_alloc (HP2.out i hi) _⟩
      · obtain ⟨h1, h2⟩ := HZ2.out o ho
        have h3 := Go.block_lt_of_cell h1
        exact ⟨cell_alloc h1 _, by rw [(bcell (below_new w2 _)).2 _ _ h3]; exact h2⟩
      · match j, hj with
        | 0, _ => simp [nk]
        | 1, _ => simp [nk]
        | 2, _ => simp [nk]
    by_cases hc1 : pcap = 1
    · have hl1 : L.length = 1 := by omega
      have hc3 : (1 : Int) ≤ (L.length : Int) := by omega
      subst hc1
      go_wp2_with fail
      go_loopw [6, 7, 8, 9, 21] (fun _ _ _ _ i wr => ∃ k : Nat, k ≤ L.length - 1 ∧ i = .int .i64 k ∧ Hid (Paw w wr w2.heap.size pb po L k) ∧ Hid (nums L k = true)) (fun _ _ _ _ i _ => L.length - 1 - (intOf i).toNat)
      case atStart => exact ⟨0, Nat.zero_le _, rfl, H0, rfl⟩
      case round =>
        clear H0 HP2 HZ2 HB2
        obtain ⟨k, hk, rfl, HP, HN⟩ := hrel
        by_cases hlt : k < L.length - 1
        · have hlt' : (k : Int) < (L.length : Int) - 1 := by omega
          have h0 : (0 : Int) ≤ (k : Int) := by omega
          have hk3 : (k : Int) < 3 := by omega
          have hw := HP.out.2.2.2.2.2 (k + 1) (by omega)
          omega
        · have hkn : k = L.length - 1 := by omega
          have HA : Hid (actOf L = #[.int .i64 0, .int .i64 (kindP L), .int .i64 (nk L k 0), .int .i64 (nk L k 1), .int .i64 (nk L k 2)]) := by
            show actOf L = _
            rw [actOf_yes (by simp only [okA, ← hkn, HN.out, Bool.and_true]; exact hdk)]
            have e : ∀ j, nA L (j + 1) = nk L k j := fun j => by
              have : (j + 1 < L.length) ↔ (j < k) := by omega
              simp only [nA, nk, this]
            rw [e 0, e 1, e 2]
          have hge : ¬ (k : Int) < (L.length : Int) - 1 := by omega
          obtain ⟨a0, b0⟩ := HP.out.2.2.2.2.1 0 (by omega)
          obtain ⟨a1, b1⟩ := HP.out.2.2.2.2.1 1 (by omega)
          obtain ⟨a2, b2⟩ := HP.out.2.2.2.2.1 2 (by omega)
          obtain ⟨z0, f0⟩ := HP.out.2.2.2.1 0 (by omega)
          obtain ⟨z1, f1⟩ := HP.out.2.2.2.1 1 (by omega)
          obtain ⟨z2, f2⟩ := HP.out.2.2.2.1 2 (by omega)
          obtain ⟨z3, f3⟩ := HP.out.2.2.2.1 3 (by omega)
          obtain ⟨z4, f4⟩ := HP.out.2.2.2.1 4 (by omega)
          have HB3 : Hid (Below w.heap.size w wr) := HP.out.1
          clear hkn
          go_wp2_with fail
          refine bodyPost_ret (v := .agg #[.int .i64 0, .int .i64 (kindP L), .int .i64 (nk L k 0), .int .i64 (nk L k 1), .int .i64 (nk L k 2)]) (by simp [results, Tryd.results7, go_sem, z0, z1, z2, z3, z4]) rfl ?_
          refine ⟨by rw [HA.out], ?_⟩
          repeat (first | with_reducible exact HB3.out | with_reducible refine Below.setCell ?_ (by first | omega | (simp <;> omega)) _)
    · have hc2 : ¬ (pcap : Int) = 1 := by omega
      have hc3 : (1 : Int) ≤ (L.length : Int) := by omega
      have hc4 : (L.length : Int) ≤ (pcap : Int) := by omega
      have hc5 : (1 : Int) ≤ (pcap : Int) := by omega
      go_wp2_with fail
      go_loopw [6, 7, 8, 9, 21] (fun _ _ _ _ i wr => ∃ k : Nat, k ≤ L.length - 1 ∧ i = .int .i64 k ∧ Hid (Paw w wr w2.heap.size pb po L k) ∧ Hid (nums L k = true)) (fun _ _ _ _ i _ => L.length - 1 - (intOf i).toNat)
      case atStart => exact ⟨0, Nat.zero_le _, rfl, H0, rfl⟩
      case round =>
        clear H0 HP2 HZ2 HB2
        obtain ⟨k, hk, rfl, HP, HN⟩ := hrel
        by_cases hlt : k < L.length - 1
        · have hlt' : (k : Int) < (L.length : Int) - 1 := by omega
          have h0 : (0 : Int) ≤ (k : Int) := by omega
          have hk3 : (k : Int) < 3 := by omega
          have hw := HP.out.2.2.2.2.2 (k + 1) (by omega)
          rw [show po + (k + 1) = po + 1 + k by omega] at hw
          go_wp2_with fail
          refine (numberIn_any _ _).mono ?_
          rintro e w3 ⟨rfl, hq⟩
          have hq2 := hq.symm
          clear hq
          subst hq2
          cases hnb : numB (sg L (k + 1)) with
          | true =>
            have HN2 : Hid (nums L (k + 1) = true) := by show (nums L k && numB (sg L (k + 1))) = true; rw [HN.out, hnb]; rfl
            have HP2 : Hid (Paw w (wr.setCell ⟨w2.heap.size, k, none⟩ (.int .i64 (numV (sg L (k + 1))))) w2.heap.size pb po L (k + 1)) := HP.out.put (by omega)
            obtain ⟨a0, a1⟩ := HP.out.2.2.2.2.1 k (by omega)
            go_wp2_with fail
            go_roundw
            case rel => exact ⟨k + 1, by omega, by go_num, HP2, HN2⟩
            case measure => simp [intOf]; omega
          | false =>
            have HA : Hid (actOf L = #[.int .i64 5, .int .i64 0, .int .i64 0, .int .i64 0, .int .i64 0]) := actOf_no (by simp only [okA]; rw [nums_not (j := k + 1) (by omega) (by omega) hnb, Bool.and_false])
            obtain ⟨z0, f0⟩ := HP.out.2.2.2.1 0 (by omega)
            obtain ⟨z1, f1⟩ := HP.out.2.2.2.1 1 (by omega)
            obtain ⟨z2, f2⟩ := HP.out.2.2.2.1 2 (by omega)
            obtain ⟨z3, f3⟩ := HP.out.2.2.2.1 3 (by omega)
            obtain ⟨z4, f4⟩ := HP.out.2.2.2.1 4 (by omega)
            have HB3 : Hid (Below w.heap.size w wr) := HP.out.1
            go_wp2_with fail
            (try simp only [Exit.inBlock, Exit.then])
            refine bodyPost_ret (v := .agg #[.int .i64 5, .int .i64 0, .int .i64 0, .int .i64 0, .int .i64 0]) (by simp [results, Tryd.results7, go_sem, z0, z1, z2, z3, z4]) rfl ?_
            refine ⟨by rw [HA.out], ?_⟩
            repeat (first | with_reducible exact HB3.out | with_reducible refine Below.setCell ?_ (by first | omega | (simp <;> omega)) _)
        · have hkn : k = L.length - 1 := by omega
          have HA : Hid (actOf L = #[.int .i64 0, .int .i64 (kindP L), .int .i64 (nk L k 0), .int .i64 (nk L k 1), .int .i64 (nk L k 2)]) := by
            show actOf L = _
            rw [actOf_yes (by simp only [okA, ← hkn, HN.out, Bool.and_true]; exact hdk)]
            have e : ∀ j, nA L (j + 1) = nk L k j := fun j => by
              have : (j + 1 < L.length) ↔ (j < k) := by omega
              simp only [nA, nk, this]
            rw [e 0, e 1, e 2]
          have hge : ¬ (k : Int) < (L.length : Int) - 1 := by omega
          obtain ⟨a0, b0⟩ := HP.out.2.2.2.2.1 0 (by omega)
          obtain ⟨a1, b1⟩ := HP.out.2.2.2.2.1 1 (by omega)
          obtain ⟨a2, b2⟩ := HP.out.2.2.2.2.1 2 (by omega)
          obtain ⟨z0, f0⟩ := HP.out.2.2.2.1 0 (by omega)
          obtain ⟨z1, f1⟩ := HP.out.2.2.2.1 1 (by omega)
          obtain ⟨z2, f2⟩ := HP.out.2.2.2.1 2 (by omega)
          obtain ⟨z3, f3⟩ := HP.out.2.2.2.1 3 (by omega)
          obtain ⟨z4, f4⟩ := HP.out.2.2.2.1 4 (by omega)
          have HB3 : Hid (Below w.heap.size w wr) := HP.out.1
          clear hkn
          go_wp2_with fail
          refine bodyPost_ret (v := .agg #[.int .i64 0, .int .i64 (kindP L), .int .i64 (nk L k 0), .int .i64 (nk L k 1), .int .i64 (nk L k 2)]) (by simp [results, Tryd.results7, go_sem, z0, z1, z2, z3, z4]) rfl ?_
          refine ⟨by rw [HA.out], ?_⟩
          repeat (first | with_reducible exact HB3.out | with_reducible refine Below.setCell ?_ (by first | omega | (simp <;> omega)) _)
end Go.Proofs.YtiflheclfgloaaaDoor
