/- The laws' own helpers over cells and pages: copies, marks, what is held. -/
import Derived.Test.YtgchkpahoilmdaaCel
namespace Go.Proofs.Ytgchkpahoilmdaa
open Go.RowKit Go.Deep
set_option linter.unusedVariables false

/-! ### laws.toCellS -/
theorem cv_step {K V : Nat → Int} {w : World} {b n k : Nat} (h : w.rowIs b 70 (n * 2) (cv (fun i => if i < k then K i else 0) (fun i => if i < k then V i else 0))) :
    ((w.setCell ⟨b, k * 2, none⟩ (.int .i64 (K k))).setCell ⟨b, k * 2 + 1, none⟩ (.int .i64 (V k))).rowIs b 70 (n * 2) (cv (fun i => if i < k + 1 then K i else 0) (fun i => if i < k + 1 then V i else 0)) := by
  refine ((h.set (k * 2) _).set (k * 2 + 1) _).congr fun j _ => ?_
  by_cases e1 : j = k * 2 + 1
  · subst e1; rw [if_pos rfl, cv_val]; simp
  · rw [if_neg e1]
    by_cases e2 : j = k * 2
    · subst e2; rw [if_pos rfl, cv_key]; simp
    · rw [if_neg e2]
      have : (j / 2 < k) ↔ (j / 2 < k + 1) := by omega
      unfold cv; simp only [this]
/-! ### laws.markCellS -/
theorem setO {w : World} {b o o' : Nat} {v : Value} (h : o ≠ o') : (w.setCell ⟨b, o, none⟩ v).cell? ⟨b, o', none⟩ = w.cell? ⟨b, o', none⟩ := World.cell?_setCell_other _ _ _ _ (by intro e; exact h (congrArg Addr.off e))
theorem setS {w : World} {a : Addr} {v u : Value} (h : w.cell? a = some u) : (w.setCell a v).cell? a = some v := World.cell?_setCell_same _ _ _ h
/-- The four rows of facts that 'Own' has of its cells. -/
def Row2 (w : World) (b off n : Nat) (K V : Nat → Int) : Prop :=
  (∀ i, i < n → w.cell? ⟨b, off + i * 2, none⟩ = some (.int .i64 (K i))) ∧ (∀ i, i < n → w.cell? ⟨b, off + i * 2 + 1, none⟩ = some (.int .i64 (V i))) ∧
    (∀ i, i < n → w.frozen? ⟨b, off + i * 2, none⟩ = false) ∧ (∀ i, i < n → w.frozen? ⟨b, off + i * 2 + 1, none⟩ = false)
def mk (m : Int) (K : Nat → Int) (j i : Nat) : Int := if i < j then m + i * 2 else K i
theorem mk_lt {m : Int} {K : Nat → Int} {j i : Nat} (h : i < j) : mk m K j i = m + i * 2 := by simp [mk, h]
theorem mk_ne {m : Int} {K : Nat → Int} {j i : Nat} (h : i ≠ j) : mk m K (j + 1) i = mk m K j i := by
  unfold mk; by_cases e : i < j
  · rw [if_pos e, if_pos (by omega)]
  · rw [if_neg e, if_neg (by omega)]
theorem row2_step {w : World} {b off n k : Nat} {K V : Nat → Int} {m : Int} (hlt : k < n) (h : Row2 w b off n (mk m K k) (mk (m + 1) V k)) :
    Row2 ((w.setCell ⟨b, off + k * 2, none⟩ (.int .i64 (m + k * 2))).setCell ⟨b, off + k * 2 + 1, none⟩ (.int .i64 (m + k * 2 + 1))) b off n (mk m K (k + 1)) (mk (m + 1) V (k + 1)) := by
  obtain ⟨hk, hv, hf, hg⟩ := h
  refine ⟨fun i hi => ?_, fun i hi => ?_, fun i hi => ?_, fun i hi => ?_⟩
  · rw [setO (by omega)]
    by_cases e : i = k
    · subst e; rw [setS (hk i hi), mk_lt (by omega)]
    · rw [setO (by omega), mk_ne e, hk i hi]
  · by_cases e : i = k
    · subst e
      have h0 : (w.setCell ⟨b, off + i * 2, none⟩ (.int .i64 (m + i * 2))).cell? ⟨b, off + i * 2 + 1, none⟩ = some (.int .i64 (mk (m + 1) V i i)) := by
        rw [setO (by omega), hv i hi]
      rw [setS h0, mk_lt (by omega)]
      congr 2; omega
    · rw [setO (by omega), setO (by omega), mk_ne e, hv i hi]
  · simp [go_sem, hf i hi]
  · simp [go_sem, hg i hi]
set_option maxHeartbeats 400000 in
theorem markCellS_some (n : Nat) (K V : Nat → Int) (b off cap lo hi : Nat) (m : Int) (w : World) (hn : n ≤ 8796093022208) (hm1 : 0 ≤ m) (hm2 : m ≤ 8796093022208) (hlo : lo ≤ b) (hhi : b < hi) (hr : Row2 w b off n K V) :
    Calls Try.prog 81 #[.slice (some ⟨b, off, none⟩) n cap, .int .i64 m] w fun e w' =>
      e = .returned (.int .i64 (m + n * 2)) ∧ Writes lo hi w w' ∧ Row2 w' b off n (mk m K n) (mk (m + 1) V n) := by
  go_enter Try.func81, Try.ntmps81
  go_wp2
  go_loopw [1, 5] (fun q i wr => ∃ k : Nat, k ≤ n ∧ i = .int .i64 k ∧ q = .int .i64 (m + k * 2) ∧ Writes lo hi w wr ∧ Row2 wr b off n (mk m K k) (mk (m + 1) V k)) (fun _ i _ => n - (intOf i).toNat)
  case atStart => exact ⟨0, Nat.zero_le _, rfl, by go_num, Writes.refl _ _ _, ⟨fun i h => by rw [hr.1 i h]; simp [mk], fun i h => by rw [hr.2.1 i h]; simp [mk], hr.2.2.1, hr.2.2.2⟩⟩
  case round =>
    obtain ⟨k, hk0, rfl, rfl, hb, hrow⟩ := hrel
    by_cases hlt : k < n
    · have h1 := hrow.1 k hlt
      have h2 := hrow.2.1 k hlt
      have h3 := hrow.2.2.1 k hlt
      have h4 := hrow.2.2.2 k hlt
      generalize mk m K k k = x1 at h1
      generalize mk (m + 1) V k k = x2 at h2
      have HR : Hid (Row2 wr b off n (mk m K k) (mk (m + 1) V k)) := hrow
      have HB : Hid (Writes lo hi w wr) := hb
      clear hr hrow hb
      go_wp2
      go_roundw
      case rel => exact ⟨k + 1, hlt, by go_num, by go_num, (HB.out.setCell (p := ⟨b, _, none⟩) hlo hhi _).setCell (p := ⟨b, _, none⟩) hlo hhi _, row2_step hlt HR.out⟩
      case measure => simp [intOf]; omega
    · have hkn : k = n := by omega
      have HR : Hid (Row2 wr b off n (mk m K n) (mk (m + 1) V n)) := by have h := hrow; rw [hkn] at h; exact h
      clear hr hrow
      go_wp2
      go_ret
      exact ⟨ret_int (by rw [hkn]), hb, HR.out⟩
theorem markCellS_zero (a : Option Addr) (cap lo hi : Nat) (m : Int) (w : World) (hm1 : 0 ≤ m) (hm2 : m ≤ 8796093022208) :
    Calls Try.prog 81 #[.slice a 0 cap, .int .i64 m] w fun e w' => e = .returned (.int .i64 m) ∧ w' = w := by
  go_enter Try.func81, Try.ntmps81
  go_wp2
  go_loop [1, 5] (fun q i => q = .int .i64 m ∧ i = .int .i64 0) (fun _ _ => 0)
  case atStart => exact ⟨rfl, rfl⟩
  case round =>
    obtain ⟨rfl, rfl⟩ := hrel
    go_wp2
    go_ret
    exact ⟨rfl, rfl⟩
def mK (m : Int) (i : Nat) : Int := m + i * 2
theorem markCellS_any (n : Nat) (K V : Nat → Int) (a : Option Addr) (cap lo hi : Nat) (m : Int) (w : World) (hn : n ≤ 8796093022208) (hm1 : 0 ≤ m) (hm2 : m ≤ 8796093022208) (h : Own w lo hi a n K V) :
    Calls Try.prog 81 #[.slice a n cap, .int .i64 m] w fun e w' =>
      e = .returned (.int .i64 (m + n * 2)) ∧ Writes lo hi w w' ∧ Own w' lo hi a n (mK m) (mK (m + 1)) := by
  obtain ⟨h0, rfl | ⟨b, off, rfl, hlo, hhi, hr⟩⟩ := h
  · refine (markCellS_zero a cap lo hi m w hm1 hm2).mono ?_
    rintro e w' ⟨rfl, rfl⟩
    exact ⟨ret_int (by omega), Writes.refl _ _ _, h0, .inl rfl⟩
  · refine (markCellS_some n K V b off cap lo hi m w hn hm1 hm2 hlo hhi hr).mono ?_
    rintro e w' ⟨rfl, hw, h1, h2, h3⟩
    exact ⟨rfl, hw, Nat.le_trans h0 hw.size, .inr ⟨b, off, rfl, hlo, hhi, fun i hi => by rw [h1 i hi, mk_lt hi]; rfl, fun i hi => by rw [h2 i hi, mk_lt hi]; rfl, h3⟩⟩

/-! ### laws.heldCellS -/
set_option maxHeartbeats 400000 in
theorem heldCellS_some (n b off cap : Nat) (m : Int) (w : World) (hn : n ≤ 8796093022208) (hm1 : 0 ≤ m) (hm2 : m ≤ 8796093022208)
    (hk : ∀ i, i < n → w.cell? ⟨b, off + i * 2, none⟩ = some (.int .i64 (mK m i))) (hv : ∀ i, i < n → w.cell? ⟨b, off + i * 2 + 1, none⟩ = some (.int .i64 (mK (m + 1) i))) :
    Calls Try.prog 82 #[.slice (some ⟨b, off, none⟩) n cap, .int .i64 m] w fun e w' => e = .returned (.int .i64 (m + n * 2)) ∧ w' = w := by
  go_enter Try.func82, Try.ntmps82
  go_wp2
  go_loop [1, 5] (fun q i => ∃ k : Nat, k ≤ n ∧ i = .int .i64 k ∧ q = .int .i64 (m + k * 2)) (fun _ i => n - (intOf i).toNat)
  case atStart => exact ⟨0, Nat.zero_le _, rfl, by go_num⟩
  case round =>
    obtain ⟨k, hk0, rfl, rfl⟩ := hrel
    by_cases hlt : k < n
    · have h1 : w.cell? ⟨b, off + k * 2, none⟩ = some (.int .i64 (m + k * 2)) := hk k hlt
      have h2 : w.cell? ⟨b, off + k * 2 + 1, none⟩ = some (.int .i64 (m + k * 2 + 1)) := by rw [hv k hlt]; unfold mK; congr 2; omega
      clear hk hv
      go_wp2
      go_round
      case rel => exact ⟨k + 1, hlt, by go_num, by go_num⟩
      case measure => simp [intOf]; omega
    · have hkn : k = n := by omega
      clear hk hv
      go_wp2
      go_ret
      exact ⟨rfl, rfl⟩
theorem heldCellS_zero (a : Option Addr) (cap : Nat) (m : Int) (w : World) (hm1 : 0 ≤ m) (hm2 : m ≤ 8796093022208) :
    Calls Try.prog 82 #[.slice a 0 cap, .int .i64 m] w fun e w' => e = .returned (.int .i64 m) ∧ w' = w := by
  go_enter Try.func82, Try.ntmps82
  go_wp2
  go_loop [1, 5] (fun q i => q = .int .i64 m ∧ i = .int .i64 0) (fun _ _ => 0)
  case atStart => exact ⟨rfl, rfl⟩
  case round =>
    obtain ⟨rfl, rfl⟩ := hrel
    go_wp2
    go_ret
    exact ⟨rfl, rfl⟩
theorem heldCellS_any (n : Nat) (a : Option Addr) (cap : Nat) (m : Int) (w : World) (hn : n ≤ 8796093022208) (hm1 : 0 ≤ m) (hm2 : m ≤ 8796093022208) (h : CellsAt w a n (mK m) (mK (m + 1))) :
    Calls Try.prog 82 #[.slice a n cap, .int .i64 m] w fun e w' => e = .returned (.int .i64 (m + n * 2)) ∧ w' = w := by
  rcases h with rfl | ⟨b, off, rfl, _, hk, hv⟩
  · refine (heldCellS_zero a cap m w hm1 hm2).mono ?_
    rintro e w' ⟨rfl, rfl⟩
    exact ⟨ret_int (by omega), rfl⟩
  · exact heldCellS_some n b off cap m w hn hm1 hm2 hk hv

/-! ### pages -/
/-- laws.eqPage of two pages that have the same. -/
theorem eqPage_same (id lsn : Int) (n : Nat) (K V : Nat → Int) (a a' : Option Addr) (cap cap' : Nat) (w : World) (hn : n ≤ 8796093022208) (h : CellsAt w a n K V) (h' : CellsAt w a' n K V) :
    Calls Try.prog 45 #[.agg #[.int .i64 id, .int .i64 lsn, .slice a n cap], .agg #[.int .i64 id, .int .i64 lsn, .slice a' n cap']] w fun e w' => e = .returned (.bool true) ∧ Below w.heap.size w w' := by
  go_enter Try.func45, Try.ntmps45
  go_wp2_with fail
  have hb0 : ∀ o1 o2, Below w.heap.size w ((w.alloc o1).alloc o2) := fun o1 o2 => ((Below.refl _ _).alloc (Nat.le_refl _) _).alloc (by simp) _
  refine (eqCellS_any n K V a a' cap cap' _ (by omega) (h.below (hb0 _ _)) (h'.below (hb0 _ _))).mono ?_
  rintro e w1 ⟨rfl, hb1⟩
  go_wp2_with fail
  go_ret
  exact ⟨rfl, below_then (hb0 _ _) hb1⟩
theorem eqPageResult_same (code id lsn : Int) (n : Nat) (K V : Nat → Int) (a a' : Option Addr) (cap cap' : Nat) (w : World) (hn : n ≤ 8796093022208) (h : CellsAt w a n K V) (h' : CellsAt w a' n K V) :
    Calls Try.prog 11 #[.agg #[.int .i64 code, .int .i64 id, .int .i64 lsn, .slice a n cap], .agg #[.int .i64 code, .int .i64 id, .int .i64 lsn, .slice a' n cap']] w fun e w' => e = .returned (.bool true) ∧ Below w.heap.size w w' := by
  go_enter Try.func11, Try.ntmps11
  go_wp2_with fail
  have hb0 : ∀ o1 o2, Below w.heap.size w ((w.alloc o1).alloc o2) := fun o1 o2 => ((Below.refl _ _).alloc (Nat.le_refl _) _).alloc (by simp) _
  refine (eqPage_same id lsn n K V a a' cap cap' _ hn (h.below (hb0 _ _)) (h'.below (hb0 _ _))).mono ?_
  rintro e w1 ⟨rfl, hb1⟩
  go_wp2_with fail
  go_ret
  exact ⟨rfl, below_then (hb0 _ _) hb1⟩
theorem markPage_any (id lsn : Int) (n : Nat) (K V : Nat → Int) (a : Option Addr) (cap lo hi : Nat) (w : World) (hn : n ≤ 8796093022208) (h : Own w lo hi a n K V) :
    Calls Try.prog 46 #[.agg #[.int .i64 id, .int .i64 lsn, .slice a n cap], .int .i64 1] w fun e w' => e = .returned (.int .i64 (1 + n * 2)) ∧ Writes lo hi w w' ∧ Own w' lo hi a n (mK 1) (mK 2) := by
  go_enter Try.func46, Try.ntmps46
  go_wp2_with fail
  refine (markCellS_any n K V a cap lo hi 1 _ hn (by omega) (by omega) (h.below ((Below.refl _ _).alloc (Nat.le_refl _) _))).mono ?_
  rintro e w1 ⟨rfl, hw, ho⟩
  go_wp2_with fail
  go_ret
  exact ⟨rfl, (Writes.of_below ((Below.refl _ _).alloc (Nat.le_refl _) _)).trans hw, ho⟩
theorem markPageResult_any (code id lsn : Int) (n : Nat) (K V : Nat → Int) (a : Option Addr) (cap lo hi : Nat) (w : World) (hn : n ≤ 8796093022208) (h : Own w lo hi a n K V) :
    Calls Try.prog 14 #[.agg #[.int .i64 code, .int .i64 id, .int .i64 lsn, .slice a n cap], .int .i64 1] w fun e w' => e = .returned (.int .i64 (1 + n * 2)) ∧ Writes lo hi w w' ∧ Own w' lo hi a n (mK 1) (mK 2) := by
  go_enter Try.func14, Try.ntmps14
  go_wp2_with fail
  refine (markPage_any id lsn n K V a cap lo hi _ hn (h.below ((Below.refl _ _).alloc (Nat.le_refl _) _))).mono ?_
  rintro e w1 ⟨rfl, hw, ho⟩
  go_wp2_with fail
  go_ret
  exact ⟨rfl, (Writes.of_below ((Below.refl _ _).alloc (Nat.le_refl _) _)).trans hw, ho⟩
theorem heldPage_any (id lsn : Int) (n : Nat) (a : Option Addr) (cap : Nat) (w : World) (hn : n ≤ 8796093022208) (h : CellsAt w a n (mK 1) (mK 2)) :
    Calls Try.prog 47 #[.agg #[.int .i64 id, .int .i64 lsn, .slice a n cap], .int .i64 1] w fun e w' => e = .returned (.int .i64 (1 + n * 2)) ∧ Below w.heap.size w w' := by
  go_enter Try.func47, Try.ntmps47
  go_wp2_with fail
  refine (heldCellS_any n a cap 1 _ hn (by omega) (by omega) (h.below ((Below.refl _ _).alloc (Nat.le_refl _) _))).mono ?_
  rintro e w1 ⟨rfl, rfl⟩
  go_wp2_with fail
  go_ret
  exact ⟨rfl, (Below.refl _ _).alloc (Nat.le_refl _) _⟩
theorem heldPageResult_any (code id lsn : Int) (n : Nat) (a : Option Addr) (cap : Nat) (w : World) (hn : n ≤ 8796093022208) (h : CellsAt w a n (mK 1) (mK 2)) :
    Calls Try.prog 15 #[.agg #[.int .i64 code, .int .i64 id, .int .i64 lsn, .slice a n cap], .int .i64 1] w fun e w' => e = .returned (.int .i64 (1 + n * 2)) ∧ Below w.heap.size w w' := by
  go_enter Try.func15, Try.ntmps15
  go_wp2_with fail
  refine (heldPage_any id lsn n a cap _ hn (h.below ((Below.refl _ _).alloc (Nat.le_refl _) _))).mono ?_
  rintro e w1 ⟨rfl, hb⟩
  go_wp2_with fail
  go_ret
  exact ⟨rfl, below_then ((Below.refl _ _).alloc (Nat.le_refl _) _) hb⟩
end Go.Proofs.Ytgchkpahoilmdaa
