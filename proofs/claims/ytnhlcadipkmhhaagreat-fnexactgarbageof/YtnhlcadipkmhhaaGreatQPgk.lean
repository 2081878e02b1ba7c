/- PurgeEngine and GarbageOf: how many versions an engine has; what they answer. -/
import Derived.Test.YtnhlcadipkmhhaaGreatQPgb
import Derived.Test.YtnhlcadipkmhhaaGreatQPgc
import Derived.Test.YtnhlcadipkmhhaaGreatQNa
import Derived.Test.YtnhlcadipkmhhaaGreatQFf
import Derived.Test.YtnhlcadipkmhhaaGreatQGi
namespace Go.Proofs.YtnhlcadipkmhhaaGreat
open Go.RowKit Go.Deep
set_option linter.unusedVariables false
set_option linter.unusedSimpArgs false
set_option maxRecDepth 20000

theorem smf_few9 (f : Nat → Nat) (c : Nat) : ∀ n, (∀ i, i < n → f i ≤ c) → smf f n ≤ n * c
  | 0, _ => Nat.zero_le _
  | n + 1, h => by
    have h1 := smf_few9 f c n fun i hi => h i (by omega)
    have h2 := h n (by omega)
    have e : smf f (n + 1) = smf f n + f n := rfl
    rw [e, Nat.succ_mul]
    omega
theorem small_few9 {E : En} (h1 : E.p ≤ 20) (h2 : E.q ≤ 32) (h3 : ∀ i, i < E.p → (E.T i).n ≤ 60) (h4 : ∀ i, i < E.q → (E.R i).n ≤ 12) : SmallE E := by
  have g1 := smf_few9 (fun i => (E.T i).n) 60 E.p h3
  have g2 := smf_few9 (fun i => (E.R i).n) 12 E.q h4
  have g3 : E.p * 60 ≤ 20 * 60 := Nat.mul_le_mul_right _ h1
  have g4 : E.q * 12 ≤ 32 * 12 := Nat.mul_le_mul_right _ h2
  exact ⟨by omega, by omega, fun i hi => by have := h3 i hi; omega, fun i hi => by have := h4 i hi; omega, by unfold smTx; omega, by unfold smRw; omega⟩
theorem sm_rows {E : En} (h2 : E.q ≤ 32) (h4 : ∀ i, i < E.q → (E.R i).n ≤ 12) : ∀ k, k ≤ E.q → smRw E.R k ≤ 384 := fun k hk => by
  have g2 := smf_few9 (fun i => (E.R i).n) 12 k fun i hi => h4 i (by omega)
  have g4 : k * 12 ≤ 32 * 12 := Nat.mul_le_mul_right _ (by omega)
  unfold smRw
  omega
theorem pg_few {E : En} (h0 : eF E = 0) : (pgE E).p ≤ 20 ∧ (pgE E).q ≤ 32 ∧ (∀ i, i < (pgE E).p → ((pgE E).T i).n ≤ 60) ∧ ∀ i, i < (pgE E).q → ((pgE E).R i).n ≤ 12 := by
  have b := eF_pq h0
  refine ⟨?_, ?_, fun i hi => ?_, fun i hi => ?_⟩
  · have := List.length_filter_le (fun t : Tx => t.st == 1) ((List.range E.p).map E.T)
    simp only [List.length_map, List.length_range] at this
    show (pgT E).length ≤ 20
    unfold pgT
    omega
  · have := List.length_filter_le (fun r : Rw => decide (0 < r.n)) ((List.range E.q).map (fun i => puR (flF E.ck E.T E.p) (E.R i)))
    simp only [List.length_map, List.length_range] at this
    show (pgR E).length ≤ 32
    unfold pgR
    omega
  · have hm : (pgE E).T i ∈ pgT E := by
      show (pgT E).getD i zTx ∈ pgT E
      have hi2 : i < (pgT E).length := hi
      rw [List.getD_eq_getElem?_getD, List.getElem?_eq_getElem hi2]
      exact List.getElem_mem hi2
    obtain ⟨h1, _⟩ := List.mem_filter.1 hm
    obtain ⟨j, hj, e⟩ := List.mem_map.1 h1
    rw [← e]
    exact undos60 h0 j (List.mem_range.1 hj)
  · have hm : (pgE E).R i ∈ pgR E := by
      show (pgR E).getD i zRw ∈ pgR E
      have hi2 : i < (pgR E).length := hi
      rw [List.getD_eq_getElem?_getD, List.getElem?_eq_getElem hi2]
      exact List.getElem_mem hi2
    obtain ⟨h1, _⟩ := List.mem_filter.1 hm
    obtain ⟨j, hj, e⟩ := List.mem_map.1 h1
    rw [← e]
    have h2 := rows12 h0 j (List.mem_range.1 hj)
    have h3 := puN_le (E.R j).n (E.R j).U (flF E.ck E.T E.p)
    show puN (E.R j).n (E.R j).U (flF E.ck E.T E.p) ≤ 12
    omega
/-- How many versions a purge takes; what is answered. -/
def vsN (E : En) : Int := (smRw E.R E.q : Int)
def peV (E : En) : Int := if eF E = 0 then vsN E - vsN (pgE E) else 0
def peE (E : En) : En := if eF E = 0 then pgE E else zEn
theorem pe_bad {E : En} (h : eF E ≠ 0) : peV E = 0 ∧ peE E = zEn := ⟨if_neg h, if_neg h⟩
theorem pe_ok {E : En} (h : eF E = 0) : peV E = vsN E - vsN (pgE E) ∧ peE E = pgE E := ⟨if_pos h, if_pos h⟩
theorem pe_small (E : En) : SmallE (peE E) := by
  unfold peE
  split
  · rename_i h
    obtain ⟨h1, h2, h3, h4⟩ := pg_few h
    exact small_few9 h1 h2 h3 h4
  · exact small_few9 (Nat.zero_le _) (Nat.zero_le _) (fun i hi => absurd hi (Nat.not_lt_zero _)) (fun i hi => absurd hi (Nat.not_lt_zero _))
theorem eres_bad2 {c : Int} {w w' : World} (hb : Below w.heap.size w w') : ERes2 c 0 zEn w (.returned (.agg #[.int .i64 c, .int .i64 0, .int .i64 0, .int .i64 0, .slice none 0 0, .slice none 0 0])) w' := by
  obtain ⟨a, cap, a', cap', h1, h2, h3⟩ := eres_bad (c := c) hb
  exact ⟨a, cap, a', cap', h1, h2, h3.to2⟩
def gaL (E : En) : Int × Int × Int := if eF E = 0 then (vsN E - vsN (pgE E), (E.q : Int) - ((pgE E).q : Int), (E.p : Int) - ((pgE E).p : Int)) else (0, 0, 0)
def GaR (E : En) (w : World) (e : Ending) (w' : World) : Prop := e = .returned (.agg #[.int .i64 (eF E), .int .i64 (gaL E).1, .int .i64 (gaL E).2.1, .int .i64 (gaL E).2.2]) ∧ Below w.heap.size w w'
theorem ga_bad {E : En} (h : eF E ≠ 0) : gaL E = (0, 0, 0) := if_neg h
theorem ga_ok {E : En} (h : eF E = 0) : gaL E = (vsN E - vsN (pgE E), (E.q : Int) - ((pgE E).q : Int), (E.p : Int) - ((pgE E).p : Int)) := if_pos h
theorem vsN_le {E : En} (h2 : E.q ≤ 32) (h4 : ∀ i, i < E.q → (E.R i).n ≤ 12) : 0 ≤ vsN E ∧ vsN E ≤ 384 := by
  have := sm_rows h2 h4 E.q (Nat.le_refl _)
  unfold vsN
  omega
set_option maxHeartbeats 4000000 in
theorem countVersions_any (E : En) (a : Option Addr) (cap : Nat) (a' : Option Addr) (cap' : Nat) (w : World) (hq : E.q ≤ 32) (hr : ∀ i, i < E.q → (E.R i).n ≤ 12) (h : EngAt w a a' E) :
    Calls Tryz.prog 51 #[.agg #[.int .i64 E.nx, .int .i64 E.ck, .slice a E.p cap, .slice a' E.q cap']] w fun e w' => e = .returned (.int .i64 (vsN E)) ∧ Below w.heap.size w w' := by
  have HX : Hid (RwsAt w a' E.q E.R) := h.2
  have HSM : Hid (∀ k, k ≤ E.q → smRw E.R k ≤ 384) := sm_rows hq hr
  have HR12 : Hid (∀ i, i < E.q → (E.R i).n ≤ 12) := hr
  clear h hr
  go_enter Tryz.func51, Tryz.ntmps51
  go_wp2_with fail
  go_loopw [3, 5, 9] (fun s _ i wr => ∃ k : Nat, k ≤ E.q ∧ i = .int .i64 k ∧ ∃ sm : Nat, s = .int .i64 (sm : Int) ∧ Hid (sm = smRw E.R k) ∧ Hid (Below w.heap.size w wr)) (fun _ _ i _ => E.q - (intOf i).toNat)
  case atStart => exact ⟨0, Nat.zero_le _, rfl, 0, rfl, rfl, below_new _ _⟩
  case round =>
    obtain ⟨k, hk, rfl, sm, rfl, HE, HB⟩ := hrel
    have hsm : sm ≤ 384 := by rw [HE.out]; exact HSM.out k hk
    by_cases hlt : k < E.q
    · have hlt' : (k : Int) < (E.q : Int) := by omega
      have hk0 : (0 : Int) ≤ (k : Int) := by omega
      rcases HX.out.below HB.out with h | ⟨b, off, rfl, hl, hc⟩
      · omega
      obtain ⟨ri, rc, ⟨x0, x1⟩, -, -⟩ := hc k hlt
      have hn12 := HR12.out k hlt
      have HE2 : Hid (sm + (E.R k).n = smRw E.R (k + 1)) := by rw [Hid, HE.out]; rfl
      have HB2 : Hid (∀ o : Obj, Below w.heap.size w (wr.alloc o)) := fun o => below_then HB.out (below_new _ _)
      clear hc
      go_wp2_with fail
      go_roundw
      case rel => exact ⟨k + 1, hlt, by go_num, sm + (E.R k).n, by go_num, HE2, HB2.out _⟩
      case measure => simp [intOf]; omega
    · have hkn : k = E.q := by omega
      have hnl : ¬ ((k : Int) < (E.q : Int)) := by omega
      have HV : Hid ((sm : Int) = vsN E) := by rw [Hid, HE.out, hkn]; rfl
      clear hkn
      go_wp2_with fail
      go_ret
      exact ⟨ret_int HV.out, HB.out⟩
set_option maxHeartbeats 4000000 in
theorem l7Versions_any (E : En) (B : Nat) (a : Option Addr) (cap : Nat) (a' : Option Addr) (cap' : Nat) (w : World) (hq : E.q ≤ 32) (hr : ∀ i, i < E.q → (E.R i).n ≤ 12) (h : EBox w B a cap a' cap' E) :
    Calls Tryz.prog 49 #[.pointer (some ⟨B, 0, none⟩)] w fun e w' => e = .returned (.int .i64 (vsN E)) ∧ Below w.heap.size w w' := by
  have HX : Hid (RwsAt w a' E.q E.R) := h.2.2
  obtain ⟨b0, b1, b2, b3⟩ := h.1
  have HSM : Hid (∀ k, k ≤ E.q → smRw E.R k ≤ 384) := sm_rows hq hr
  have HR12 : Hid (∀ i, i < E.q → (E.R i).n ≤ 12) := hr
  clear h hr b0 b1 b2
  go_enter Tryz.func49, Tryz.ntmps49
  go_wp2_with fail
  go_loopw [3, 4] (fun s i wr => ∃ k : Nat, k ≤ E.q ∧ i = .int .i64 k ∧ ∃ sm : Nat, s = .int .i64 (sm : Int) ∧ Hid (sm = smRw E.R k) ∧ wr = w) (fun _ i _ => E.q - (intOf i).toNat)
  case atStart => exact ⟨0, Nat.zero_le _, rfl, 0, rfl, rfl, rfl⟩
  case round =>
    obtain ⟨k, hk, rfl, sm, rfl, HE, rfl⟩ := hrel
    have hsm : sm ≤ 384 := by rw [HE.out]; exact HSM.out k hk
    by_cases hlt : k < E.q
    · have hlt' : (k : Int) < (E.q : Int) := by omega
      have hk0 : (0 : Int) ≤ (k : Int) := by omega
      rcases HX.out with h | ⟨b, off, rfl, hl, hc⟩
      · omega
      obtain ⟨ri, rc, ⟨x0, x1⟩, -, -⟩ := hc k hlt
      have hn12 := HR12.out k hlt
      have HE2 : Hid (sm + (E.R k).n = smRw E.R (k + 1)) := by rw [Hid, HE.out]; rfl
      clear hc
      go_wp2_with fail
      go_roundw
      case rel => exact ⟨k + 1, hlt, by go_num, sm + (E.R k).n, by go_num, HE2, trivial⟩
      case measure => simp [intOf]; omega
    · have hkn : k = E.q := by omega
      have hnl : ¬ ((k : Int) < (E.q : Int)) := by omega
      have HV : Hid ((sm : Int) = vsN E) := by rw [Hid, HE.out, hkn]; rfl
      clear hkn
      go_wp2_with fail
      go_ret
      exact ⟨ret_int HV.out, Below.refl _ _⟩
end Go.Proofs.YtnhlcadipkmhhaaGreat
