/- Faults of stores: the transactions that are open and what is held, as functions; the program's walks. -/
import Derived.Test.YtaokclhcmgbgnaaGreatQRe
import Derived.Test.YtaokclhcmgbgnaaGreatQBase
import Derived.Test.YtaokclhcmgbgnaaGreatQRb
import Derived.Test.YtaokclhcmgbgnaaGreatQSfault
namespace Go.Proofs.YtaokclhcmgbgnaaGreat
open Go.RowKit Go.Deep
set_option linter.unusedVariables false
set_option maxRecDepth 20000

/-- Behind the first append: what is needed for the second. -/
theorem all_step {w w6 : World} {L : Lo} {a1 a2 : Option Addr} {c1 c2 : Nat} {v6 : Value} (h : LogAt w a1 a2 L)
    (hg : ((w.alloc (.cells #[.slice a1 L.n1 c1, .slice a2 L.n2 c2] 39)).alloc (.cells #[] 5)).drew.grownBy w6 (some (w.heap.size + 1))) :
    w6.cell? ⟨w.heap.size, 1, none⟩ = some (.slice a2 L.n2 c2) ∧ BytesAt w6 a2 L.n2 L.z2 ∧ Below w.heap.size w w6 ∧ w.heap.size + 1 ≤ w6.heap.size := by
  have hsz : ((w.alloc (.cells #[.slice a1 L.n1 c1, .slice a2 L.n2 c2] 39)).alloc (.cells #[] 5)).drew.heap.size = w.heap.size + 2 := by show ((w.alloc _).alloc _).heap.size = _; rw [World.size_alloc, World.size_alloc]
  have hblk : ∀ q, q < w.heap.size + 1 → w6.heap[q]? = (w.alloc (.cells #[.slice a1 L.n1 c1, .slice a2 L.n2 c2] 39)).heap[q]? := fun q hq => by
    rw [hg.block q (by rw [hsz]; omega) (by intro e; simp at e; omega)]
    show ((w.alloc _).alloc _).heap[q]? = _
    rw [Below.heap_alloc _ _ _ (by rw [World.size_alloc]; omega)]
  have hB : Below w.heap.size w w6 := ⟨hg.os, hg.tape, hg.output, by have := hg.size; rw [hsz] at this; omega, fun q hq => (hblk q (by omega)).trans (Below.heap_alloc _ _ _ hq)⟩
  refine ⟨?_, h.2.below hB, hB, by have := hg.size; rw [hsz] at this; omega⟩
  rw [World.cell?_of_block (w := w.alloc (.cells #[.slice a1 L.n1 c1, .slice a2 L.n2 c2] 39)) (a := ⟨w.heap.size, 1, none⟩) (hblk w.heap.size (by omega))]
  simp
theorem all_own0 (w : World) (o : Obj) : ((w.alloc o).alloc (.cells #[] 5)).drew.ownsRow (w.heap.size + 1) 5 1 (.slice (some ⟨w.heap.size + 1, 0, none⟩) 0 0) ([] : List Int).length (bl []) := by
  have h := World.ownsRow_lit (base := w.heap.size + 1) (size := 1) (e := 5) (w.alloc o) #[] 0 (by simp) (by unfold maxLen; omega) rfl
  rw [World.size_alloc] at h
  exact h
set_option maxHeartbeats 4000000 in
theorem l3All_any (L : Lo) (a1 a2 : Option Addr) (c1 c2 : Nat) (w : World) (hs : L.n1 + L.n2 ≤ 90000) (h : LogAt w a1 a2 L) :
    Calls Tryz.prog 54 #[.agg #[.slice a1 L.n1 c1, .slice a2 L.n2 c2]] w fun e w' => ∃ v, e = .returned v ∧ Below w.heap.size w w' ∧ AllAt w' w.heap.size v L := by
  have HA : Hid (LogAt w a1 a2 L) := h
  have hba1 : BytesAt ((w.alloc (.cells #[.slice a1 L.n1 c1, .slice a2 L.n2 c2] 39)).alloc (.cells #[] 5)).drew a1 L.n1 L.z1 := (h.1.below (below_new _ _)).below ((below_new _ _).drew)
  have hl1 : ([] : List Int).length + L.n1 ≤ 100000 := by simp; omega
  have hl2 : ([] ++ zL L.z1 L.n1).length + L.n2 ≤ 100000 := by simp [zL_len]; omega
  have hbs : w.heap.size + 1 ≤ ((w.alloc (.cells #[.slice a1 L.n1 c1, .slice a2 L.n2 c2] 39)).alloc (.cells #[] 5)).drew.heap.size := by show _ ≤ ((w.alloc _).alloc _).heap.size; rw [World.size_alloc, World.size_alloc]; omega
  have b0 : (w.alloc (.cells #[.slice a1 L.n1 c1, .slice a2 L.n2 c2] 39)).cell? ⟨w.heap.size, 0, none⟩ = some (.slice a1 L.n1 c1) := by simp
  have b1 : (w.alloc (.cells #[.slice a1 L.n1 c1, .slice a2 L.n2 c2] 39)).cell? ⟨w.heap.size, 1, none⟩ = some (.slice a2 L.n2 c2) := by simp
  have HBA : Hid (BytesAt ((w.alloc (.cells #[.slice a1 L.n1 c1, .slice a2 L.n2 c2] 39)).alloc (.cells #[] 5)).drew a1 L.n1 L.z1) := hba1
  have HL1 : Hid (([] : List Int).length + L.n1 ≤ 100000) := hl1
  have HL2 : Hid (([] ++ zL L.z1 L.n1).length + L.n2 ≤ 100000) := hl2
  have HBS : Hid (w.heap.size + 1 ≤ ((w.alloc (.cells #[.slice a1 L.n1 c1, .slice a2 L.n2 c2] 39)).alloc (.cells #[] 5)).drew.heap.size) := hbs
  clear h hba1 hl1 hl2 hbs b0 b1
  go_enter Tryz.func54, Tryz.ntmps54
  go_wp2_with fail
  go_region_law (first | (refine step_appZ _ rfl (.tmp 3) (.tmp 5) rfl (w.heap.size + 1) (.slice (some ⟨w.heap.size + 1, 0, none⟩) 0 0) [] rfl (all_own0 _ _) a1 L.n1 c1 L.z1 rfl HBA.out HL1.out HBS.out ?_; intro v6 w6 ho6 hg6; obtain ⟨k1, hba2, hB6, hz6⟩ := all_step (v6 := v6) HA.out hg6) | (refine step_appZ _ rfl (.tmp 6) (.tmp 8) rfl (w.heap.size + 1) v6 ([] ++ zL L.z1 L.n1) rfl ho6 a2 L.n2 c2 L.z2 rfl hba2 HL2.out hz6 ?_; intro v9 w9 ho9 hg9; have HB9 : Hid (Below w.heap.size w w9) := hB6.grown hg9 hB6.size (fun q hq => by have := (ho6.lt q hq).1; omega); have HO9 : Hid (w9.ownsRow (w.heap.size + 1) 5 1 v9 (([] ++ zL L.z1 L.n1) ++ zL L.z2 L.n2).length (bl (([] ++ zL L.z1 L.n1) ++ zL L.z2 L.n2))) := ho9))
  all_goals
    clear ho6 hg6 k1 hba2 hB6 hz6 ho9 hg9
    go_wp2_with fail
    go_ret
    exact ⟨v9, rfl, HB9.out, allAt_of (rowB_down HO9.out (by omega))⟩
set_option maxHeartbeats 4000000 in
theorem specLf_any (L : Lo) (a1 a2 : Option Addr) (c1 c2 : Nat) (w : World) (hn1 : L.n1 ≤ 1048576) (hn2 : L.n2 ≤ 1048576) (hby : LogByt L) (h : LogAt w a1 a2 L) :
    Calls Tryz.prog 84 #[.agg #[.slice a1 L.n1 c1, .slice a2 L.n2 c2]] w fun e w' => e = .returned (.int .i64 (lgC L)) ∧ Below w.heap.size w w' := by
  have HA : Hid (LogAt w a1 a2 L) := h
  have HY : Hid (LogByt L) := hby
  have hwr : IntKind.i64.wrap ((L.n1 : Int) + (L.n2 : Int)) = (L.n1 : Int) + (L.n2 : Int) := by rw [IntKind.wrap_i64]; omega
  clear h hby
  by_cases hm : 4000 < L.n1 + L.n2
  · have hm' : 4000 < (L.n1 : Int) + (L.n2 : Int) := by omega
    have HC : Hid (lgC L = 2) := lgC_many hm
    go_enter Tryz.func84, Tryz.ntmps84
    go_wp2_with fail
    go_ret
    exact ⟨ret_int HC.out.symm, below_new _ _⟩
  · have hm' : ¬ (4000 < (L.n1 : Int) + (L.n2 : Int)) := by omega
    go_enter Tryz.func84, Tryz.ntmps84
    go_wp2_with fail
    refine (l3All_any L a1 a2 c1 c2 _ (by omega) (HA.out.below (below_new _ _))).mono ?_
    rintro e w1 ⟨v1, rfl, hb1, hall⟩
    obtain ⟨ra, rc, rfl, hrc, ho1, hcond⟩ := hall
    obtain ⟨b, hcd⟩ := AllAt.cond (rc := rc) hcond
    have HB1 : Hid (Below w.heap.size w w1) := below_then (below_new _ _) hb1
    have HCD : Hid (L.n1 + L.n2 = 0 ∨ ra = some ⟨b, 0, none⟩ ∧ b < w1.heap.size ∧ BA w1 b 0 (L.n1 + L.n2) (aZ L)) := hcd
    clear hb1 ho1 hcond hcd
    go_wp2_with fail
    refine (l3Recs_any (L.n1 + L.n2) (aZ L) ra b 0 rc w1 hrc (by omega) (aZ_byt HY.out) HCD.out).mono ?_
    rintro e w2 ⟨rb, rcp, rfl, hb2, ho2⟩
    have HB2 : Hid (Below w.heap.size w w2) := below_then HB1.out hb2
    clear hb2 ho2
    by_cases hc : 13 * cnt (aZ L) (L.n1 + L.n2) = L.n1 + L.n2
    · have HC : Hid (lgC L = 0) := lgC_ok hm hc
      have hd : (13 * (cnt (aZ L) (L.n1 + L.n2) : Int) != ((L.n1 + L.n2 : Nat) : Int)) = false := by simp; omega
      generalize cnt (aZ L) (L.n1 + L.n2) = m at *
      clear hc
      go_wp2_with fail
      go_ret
      exact ⟨ret_int HC.out.symm, HB2.out⟩
    · have HC : Hid (lgC L = 5) := lgC_text hm hc
      have hd : (13 * (cnt (aZ L) (L.n1 + L.n2) : Int) != ((L.n1 + L.n2 : Nat) : Int)) = true := by simp; omega
      generalize cnt (aZ L) (L.n1 + L.n2) = m at *
      clear hc
      go_wp2_with fail
      go_ret
      exact ⟨ret_int HC.out.symm, HB2.out⟩
theorem field_code3 (c u : Int) (v : Value) (w : World) : (Instr.field 199 (.agg #[.int .i64 c, .int .i64 u, v]) 0).run Tryz.prog w = .ok (.int .i64 c) w := by kernel_rfl
theorem implLf_any (L : Lo) (a1 a2 : Option Addr) (c1 c2 : Nat) (w : World) (hn1 : L.n1 ≤ 1048576) (hn2 : L.n2 ≤ 1048576) (hby : LogByt L) (h : LogAt w a1 a2 L) :
    Calls Tryz.prog 153 #[.agg #[.slice a1 L.n1 c1, .slice a2 L.n2 c2]] w fun e w' => e = .returned (.int .i64 (lgC L)) ∧ Below w.heap.size w w' := by
  have HA : Hid (LogAt w a1 a2 L) := h
  have HY : Hid (LogByt L) := hby
  have hfc := field_code3
  clear h hby
  go_enter Tryz.func153, Tryz.ntmps153
  go_wp2_with fail
  refine (readLog_any L a1 a2 c1 c2 _ hn1 hn2 HY.out (HA.out.below (below_new _ _))).mono ?_
  rintro e w1 ⟨ra, rcp, u, m, rfl, -, hb1, -⟩
  go_wp2_with fail
  go_ret
  exact ⟨rfl, below_then (below_new _ _) hb1⟩
theorem heldLog_any (L : Lo) (a1 a2 : Option Addr) (c1 c2 : Nat) (m : Int) (w : World) (hn1 : L.n1 ≤ 1048576) (hn2 : L.n2 ≤ 1048576) (hm1 : 0 ≤ m) (hm2 : m ≤ 1048576) (h : LogAt w a1 a2 (mG m L)) :
    Calls Tryz.prog 114 #[.agg #[.slice a1 L.n1 c1, .slice a2 L.n2 c2], .int .i64 m] w fun e w' => e = .returned (.int .i64 (m + (L.n1 + L.n2 : Nat))) ∧ Below w.heap.size w w' := by
  obtain ⟨n, z, k, y⟩ := L
  unfold mG at h
  obtain ⟨hp, hl⟩ := h
  dsimp only at *
  have HP : Hid (BytesAt w a1 n (bk m)) := hp
  have HL : Hid (BytesAt w a2 k (bk (m + n))) := hl
  have hneg : ¬ (m + (n : Int) < 0) := by omega
  have hneg2 : ¬ (m + (n : Int) + (k : Int) < 0) := by omega
  clear hp hl
  go_enter Tryz.func114, Tryz.ntmps114
  go_wp2_with fail
  refine (heldByteS_any n a1 c1 m _ (by omega) hm1 (by omega) (HP.out.below (below_new _ _))).mono ?_
  rintro e w1 ⟨rfl, rfl⟩
  go_wp2_with fail
  refine (heldByteS_any k a2 c2 (m + n) _ (by omega) (by omega) (by omega) (HL.out.below (below_new _ _))).mono ?_
  rintro e w2 ⟨rfl, rfl⟩
  go_wp2_with fail
  go_ret
  exact ⟨ret_int (by omega), below_new _ _⟩
/-- The first place at which p is so, among the first n; -1: there is none. -/
def fst0 (p : Nat → Bool) : Nat → Int
  | 0 => -1
  | k + 1 => if fst0 p k ≠ -1 then fst0 p k else if p k then (k : Int) else -1
theorem fst0_spec (p : Nat → Bool) : ∀ n, (fst0 p n = -1 ∧ ∀ i, i < n → p i = false) ∨ ∃ k, k < n ∧ fst0 p n = (k : Int) ∧ p k = true ∧ ∀ i, i < k → p i = false
  | 0 => .inl ⟨rfl, fun i hi => by omega⟩
  | n + 1 => by
    rcases fst0_spec p n with ⟨h1, h2⟩ | ⟨k, h1, h2, h3, h4⟩
    · by_cases e : p n = true
      · right
        exact ⟨n, by omega, by simp only [fst0]; rw [if_neg (by simp [h1]), if_pos e], e, h2⟩
      · left
        refine ⟨by simp only [fst0]; rw [if_neg (by simp [h1]), if_neg e], fun i hi => ?_⟩
        by_cases q : i = n
        · subst q; simpa using e
        · exact h2 i (by omega)
    · right
      exact ⟨k, by omega, by simp only [fst0]; rw [if_pos (by rw [h2]; omega), h2], h3, h4⟩
theorem boolor (b : Bool) : b = true ∨ b = false := by cases b <;> simp
def idx (l : List Int) (v : Int) : Int := fst0 (fun i => zI l i == v) l.length
theorem zI_mem {l : List Int} {i : Nat} (h : i < l.length) : zI l i ∈ l := by
  simp only [zI, List.getD_eq_getElem?_getD, List.getElem?_eq_getElem h, Option.getD_some]
  exact List.getElem_mem h
theorem mem_zI {l : List Int} {v : Int} (h : v ∈ l) : ∃ i, i < l.length ∧ zI l i = v := by
  obtain ⟨i, hi, e⟩ := List.mem_iff_getElem.1 h
  exact ⟨i, hi, by simp only [zI, List.getD_eq_getElem?_getD, List.getElem?_eq_getElem hi, Option.getD_some]; exact e⟩
theorem idx_mem (l : List Int) (v : Int) : decide (0 ≤ idx l v) = decide (v ∈ l) := by
  unfold idx
  rcases fst0_spec (fun i => zI l i == v) l.length with ⟨h, h2⟩ | ⟨k, h1, h2, h3, _⟩
  · rw [h]
    have : ¬ v ∈ l := fun hm => by
      obtain ⟨i, hi, e⟩ := mem_zI hm
      have := h2 i hi
      simp [e] at this
    simp [this]
  · rw [h2]
    have : v ∈ l := by have h4 := zI_mem h1; simp at h3; rw [h3] at h4; exact h4
    simp [this]
set_option maxHeartbeats 4000000 in
theorem indexI_any (l : List Int) (a : Option Addr) (cap : Nat) (v : Int) (w : World) (hn : l.length ≤ 100000) (h : IntsAt w a l.length (zI l)) :
    Calls Tryz.prog 173 #[.slice a l.length cap, .int .i64 v] w fun e w' => e = .returned (.int .i64 (idx l v)) ∧ w' = w := by
  have HX : Hid (IntsAt w a l.length (zI l)) := h
  clear h
  go_enter Tryz.func173, Tryz.ntmps173
  go_wp2_with fail
  go_loop [5, 8] (fun _ i => ∃ k : Nat, k ≤ l.length ∧ i = .int .i64 k ∧ Hid (∀ i, i < k → (zI l i == v) = false)) (fun _ i => l.length - (intOf i).toNat)
  case atStart => exact ⟨0, Nat.zero_le _, rfl, fun i hi => by omega⟩
  case round =>
    obtain ⟨k, hk, rfl, HN⟩ := hrel
    by_cases hlt : k < l.length
    · have hlt' : (k : Int) < (l.length : Int) := by omega
      have hk0 : (0 : Int) ≤ (k : Int) := by omega
      rcases HX.out with h | ⟨bb, off, rfl, hl, hcc⟩
      · omega
      have x0 := hcc k hlt
      clear hcc
      have HY : Hid ((zI l k == v) = true → idx l v = (k : Int)) := fun e => by
        unfold idx
        rcases fst0_spec (fun i => zI l i == v) l.length with ⟨_, h2⟩ | ⟨j, h1, h2, h3, h4⟩
        · have := h2 k hlt; rw [e] at this; simp at this
        · rw [h2]
          rcases Nat.lt_trichotomy k j with q | q | q
          · have := h4 k q; rw [e] at this; simp at this
          · omega
          · have := HN.out j q; rw [h3] at this; simp at this
      have HM : Hid ((zI l k == v) = false → ∀ i, i < k + 1 → (zI l i == v) = false) := fun e i hi => by
        by_cases q : i = k
        · subst q; exact e
        · exact HN.out i (by omega)
      generalize zI l k = z at *
      obtain h1 | h1 := boolor (v == z)
      · have HE : Hid (idx l v = (k : Int)) := HY.out (by have : v = z := by simpa using h1
                                                          simp [this])
        clear HY HM
        go_wp2_with fail
        first | (go_ret; exact ⟨ret_int HE.out.symm, rfl⟩) | (go_region; go_wp2_with fail; go_ret; exact ⟨ret_int HE.out.symm, rfl⟩)
      · have HE : Hid (∀ i, i < k + 1 → (zI l i == v) = false) := HM.out (by have : ¬ v = z := by simpa using h1
                                                                             simp; exact fun e => this e.symm)
        clear HY HM
        go_wp2_with fail
        go_round
        case rel => exact ⟨k + 1, hlt, by go_num, HE⟩
        case measure => simp [intOf]; omega
    · have hkn : k = l.length := by omega
      have hnl : ¬ ((k : Int) < (l.length : Int)) := by omega
      have HE : Hid (idx l v = -1) := by
        show idx l v = -1
        unfold idx
        rcases fst0_spec (fun i => zI l i == v) l.length with ⟨h1, _⟩ | ⟨j, h1, _, h3, _⟩
        · exact h1
        · have := HN.out j (by omega); rw [h3] at this; simp at this
      go_wp2_with fail
      go_ret
      exact ⟨ret_int HE.out.symm, rfl⟩
theorem containsI_any (l : List Int) (a : Option Addr) (cap : Nat) (v : Int) (w : World) (hn : l.length ≤ 100000) (h : IntsAt w a l.length (zI l)) :
    Calls Tryz.prog 123 #[.slice a l.length cap, .int .i64 v] w fun e w' => e = .returned (.bool (decide (v ∈ l))) ∧ w' = w := by
  have HX : Hid (IntsAt w a l.length (zI l)) := h
  have HE : Hid (decide (0 ≤ idx l v) = decide (v ∈ l)) := idx_mem l v
  clear h
  go_enter Tryz.func123, Tryz.ntmps123
  go_wp2_with fail
  refine (indexI_any l a cap v _ hn HX.out).mono ?_
  rintro e w1 ⟨rfl, hq⟩
  have hq2 := hq.symm
  clear hq
  subst hq2
  generalize idx l v = q at *
  go_wp2_with fail
  go_ret
  exact ⟨ret_bool HE.out, rfl⟩
set_option maxHeartbeats 2000000 in
theorem l1Has_any (zs : List Int) (a : Option Addr) (cap : Nat) (v : Int) (w : World) (hn : zs.length ≤ 100000) (h : IntsAt w a zs.length (zI zs)) :
    Calls Tryz.prog 52 #[.slice a zs.length cap, .int .i64 v] w fun e w' => e = .returned (.bool (decide (v ∈ zs))) ∧ w' = w := by
  have HA : Hid (IntsAt w a zs.length (zI zs)) := h
  clear h
  go_enter Tryz.func52, Tryz.ntmps52
  go_wp2_with fail
  go_loop [5] (fun i => ∃ k : Nat, k ≤ zs.length ∧ i = .int .i64 k ∧ Hid (∀ j, j < k → zI zs j ≠ v)) (fun i => zs.length - (intOf i).toNat)
  case atStart => exact ⟨0, Nat.zero_le _, rfl, fun j hj => by omega⟩
  case round =>
    obtain ⟨k, hk, rfl, HN⟩ := hrel
    by_cases hlt : k < zs.length
    · have hlt' : (k : Int) < (zs.length : Int) := by omega
      have hk0 : (0 : Int) ≤ (k : Int) := by omega
      rcases HA.out with h | ⟨b, off, rfl, hl, hc⟩
      · omega
      have hx := hc k hlt
      clear hc
      by_cases he : zI zs k = v
      · have HM : Hid (decide (v ∈ zs) = true) := by
          refine decide_eq_true ?_
          rw [← he]
          unfold zI
          rw [List.getD_eq_getElem?_getD, List.getElem?_eq_getElem hlt]
          exact List.getElem_mem hlt
        have he2 : (zI zs k == v) = true := by simp [he]
        generalize zI zs k = zk at *
        clear he
        go_wp2_with fail
        go_ret
        exact ⟨ret_bool HM.out.symm, rfl⟩
      · have HN2 : Hid (∀ j, j < k + 1 → zI zs j ≠ v) := fun j hj => by
          by_cases e : j = k
          · subst e; exact he
          · exact HN.out j (by omega)
        have he2 : (zI zs k == v) = false := by simp [he]
        generalize zI zs k = zk at *
        clear he
        go_wp2_with fail
        go_round
        case rel => exact ⟨k + 1, hlt, by go_num, HN2⟩
        case measure => simp [intOf]; omega
    · have hkn : k = zs.length := by omega
      have hnl : ¬ ((k : Int) < (zs.length : Int)) := by omega
      have HM : Hid (decide (v ∈ zs) = false) := by
        refine decide_eq_false fun hm => ?_
        obtain ⟨i, hi, e⟩ := List.mem_iff_getElem.1 hm
        refine HN.out i (by omega) ?_
        unfold zI
        rw [List.getD_eq_getElem?_getD, List.getElem?_eq_getElem hi]
        exact e
      go_wp2_with fail
      go_ret
      exact ⟨ret_bool HM.out.symm, rfl⟩
/-- The first n numbers, as a list. -/
def ivL (F : Nat → Int) (n : Nat) : List Int := (List.range n).map F
theorem ivL_len (F : Nat → Int) (n : Nat) : (ivL F n).length = n := by simp [ivL]
theorem ivL_at (F : Nat → Int) {n i : Nat} (h : i < n) : zI (ivL F n) i = F i := by simp [zI, ivL, h]
theorem IntsAt.list {w : World} {a : Option Addr} {n : Nat} {F : Nat → Int} (h : IntsAt w a n F) : IntsAt w a (ivL F n).length (zI (ivL F n)) := by
  rw [ivL_len]
  rcases h with h | ⟨b, off, ha, hl, hc⟩
  · exact .inl h
  · exact .inr ⟨b, off, ha, hl, fun i hi => by rw [ivL_at F hi]; exact hc i hi⟩
theorem containsF_any (F : Nat → Int) (n : Nat) (a : Option Addr) (cap : Nat) (v : Int) (w : World) (hn : n ≤ 100000) (h : IntsAt w a n F) :
    Calls Tryz.prog 123 #[.slice a n cap, .int .i64 v] w fun e w' => e = .returned (.bool (decide (v ∈ ivL F n))) ∧ w' = w := by
  have h1 := containsI_any (ivL F n) a cap v w (by rw [ivL_len]; exact hn) h.list
  rw [ivL_len] at h1
  exact h1
theorem l1HasF_any (F : Nat → Int) (n : Nat) (a : Option Addr) (cap : Nat) (v : Int) (w : World) (hn : n ≤ 100000) (h : IntsAt w a n F) :
    Calls Tryz.prog 52 #[.slice a n cap, .int .i64 v] w fun e w' => e = .returned (.bool (decide (v ∈ ivL F n))) ∧ w' = w := by
  have h1 := l1Has_any (ivL F n) a cap v w (by rw [ivL_len]; exact hn) h.list
  rw [ivL_len] at h1
  exact h1
/-- From k on, f keys: each stands in the page. -/
def ksB (id : Int) (K : Nat → Int) : Nat → Nat → Bool
  | 0, _ => true
  | f + 1, k => if (K k).tmod 4 = id then ksB id K f (k + 1) else false
theorem ksB_at {id : Int} {K : Nat → Int} {n k : Nat} (h : k < n) : ksB id K (n - k) k = if (K k).tmod 4 = id then ksB id K (n - (k + 1)) (k + 1) else false := by
  rw [show n - k = (n - (k + 1)) + 1 by omega]; rfl
/-- The fault of a page at its place in a store. -/
def pgF (p : Pg) (i : Nat) : Int := if pf p.id p.lsn p.cn p.cK p.cV = 0 then (if p.id = (i : Int) then (if ksB p.id p.cK p.cn 0 = true then 0 else 1) else 1) else pf p.id p.lsn p.cn p.cK p.cV
def psF (T : Nat → Pg) : Nat → Nat → Int
  | 0, _ => 0
  | f + 1, k => if pgF (T k) k = 0 then psF T f (k + 1) else pgF (T k) k
theorem psF_at {T : Nat → Pg} {n k : Nat} (h : k < n) : psF T (n - k) k = if pgF (T k) k = 0 then psF T (n - (k + 1)) (k + 1) else pgF (T k) k := by
  rw [show n - k = (n - (k + 1)) + 1 by omega]; rfl
theorem psF_end {T : Nat → Pg} {n k : Nat} (h : ¬ k < n) : psF T (n - k) k = 0 := by rw [show n - k = 0 by omega]; rfl
theorem pageIdOf_any (v : Int) (w : World) : Calls Tryz.prog 140 #[.int .i64 v] w fun e w' => e = .returned (.int .i64 (v.tmod 4)) ∧ w' = w := by
  go_enter Tryz.func140, Tryz.ntmps140
  go_wp2
  go_ret
  exact ⟨rfl, rfl⟩
theorem pageIdOf_q (v : Int) (w : World) : Calls Tryz.prog 140 #[.int .i64 v] w fun e w' => e = .returned (.int .i64 (v.tmod 4)) ∧ ∃ n, w' = w.drewN n := by
  refine (pageIdOf_any v w).mono ?_
  rintro e w' ⟨rfl, rfl⟩
  exact ⟨rfl, 0, rfl⟩
set_option maxHeartbeats 2000000 in
theorem keysStandIn_any (id lsn : Int) (n : Nat) (K V : Nat → Int) (a : Option Addr) (cap : Nat) (w : World) (hn : n ≤ 140737488355328) (h : CellsAt w a n K V) :
    Calls Tryz.prog 188 #[.agg #[.int .i64 id, .int .i64 lsn, .slice a n cap]] w fun e w' => e = .returned (.bool (ksB id K n 0)) ∧ Below w.heap.size w w' := by
  have HA : Hid (CellsAt w a n K V) := h
  clear h
  go_enter Tryz.func188, Tryz.ntmps188
  go_wp2_with fail
  go_loopw [4, 8] (fun _ i wr => ∃ k : Nat, k ≤ n ∧ i = .int .i64 k ∧ Hid (ksB id K n 0 = ksB id K (n - k) k) ∧ Hid (Below w.heap.size w wr) ∧ wr.cell? ⟨w.heap.size, 0, none⟩ = some (.int .i64 id)) (fun _ i _ => n - (intOf i).toNat)
  case atStart => exact ⟨0, Nat.zero_le _, rfl, rfl, below_new _ _, by simp [go_sem]⟩
  case round =>
    obtain ⟨k, hk, rfl, HC, HB, hid⟩ := hrel
    by_cases hlt : k < n
    · have hlt' : (k : Int) < (n : Int) := by omega
      have hk0 : (0 : Int) ≤ (k : Int) := by omega
      rcases HA.out.below HB.out with h | ⟨b, off, rfl, hl, h1, h2⟩
      · omega
      have g1 := h1 k hlt
      have g2 := h2 k hlt
      have HA2 : Hid (ksB id K n 0 = _) := HC.out.trans (ksB_at hlt)
      have hid2 : ∀ o : Obj, (wr.alloc o).cell? ⟨w.heap.size, 0, none⟩ = some (.int .i64 id) := fun o => cell_alloc hid o
      have hne : ¬ w.heap.size = wr.heap.size := by have := HB.out.size; have := Go.block_lt_of_cell hid; simp at this; omega
      clear h1 h2 HC
      by_cases he : (K k).tmod 4 = id
      · have HE : Hid (ksB id K n 0 = ksB id K (n - (k + 1)) (k + 1)) := HA2.out.trans (if_pos he)
        have he2 : ((K k).tmod 4 != id) = false := by simp [he]
        have HID : Hid (wr.cell? ⟨w.heap.size, 0, none⟩ = some (.int .i64 id)) := hid
        clear HA2 he
        go_wp2_with fail
        go_quiet (first | (go_at_call 140; exact Calls.quiet_of (pageIdOf_q _ _)))
        go_wp2_with fail
        go_roundw
        case rel => exact ⟨k + 1, hlt, by go_num, HE, by have hs := HB.out.size; repeat (first | with_reducible exact HB.out | apply Below.drew | refine below_drewN ?_ _ | refine Below.alloc ?_ (by first | omega | (simp; omega)) _), by first | (simp [go_sem]; rw [hid2]) | (simp [go_sem, hid2])⟩
        case measure => simp [intOf]; omega
      · have HE : Hid (ksB id K n 0 = false) := HA2.out.trans (if_neg he)
        have he2 : ((K k).tmod 4 != id) = true := by simp [he]
        clear HA2 he
        go_wp2_with fail
        go_quiet (first | (go_at_call 140; exact Calls.quiet_of (pageIdOf_q _ _)))
        go_wp2_with fail
        go_ret
        exact ⟨ret_bool HE.out.symm, by have hs := HB.out.size; repeat (first | with_reducible exact HB.out | apply Below.drew | refine below_drewN ?_ _ | refine Below.alloc ?_ (by first | omega | (simp; omega)) _)⟩
    · have hnl : ¬ ((k : Int) < (n : Int)) := by omega
      have HE : Hid (ksB id K n 0 = true) := HC.out.trans (by rw [show n - k = 0 by omega]; rfl)
      clear HC
      go_wp2_with fail
      go_ret
      exact ⟨ret_bool HE.out.symm, HB.out⟩
set_option maxHeartbeats 2000000 in
theorem storePageFault_any (p : Pg) (i : Nat) (a : Option Addr) (cap : Nat) (w : World) (hn : p.cn ≤ 1048576) (h : CellsAt w a p.cn p.cK p.cV) :
    Calls Tryz.prog 151 #[.agg #[.int .i64 p.id, .int .i64 p.lsn, .slice a p.cn cap], .int .i64 (i : Int)] w fun e w' => e = .returned (.int .i64 (pgF p i)) ∧ Below w.heap.size w w' := by
  have HA : Hid (CellsAt w a p.cn p.cK p.cV) := h
  have HP : Hid (pgF p i = if pf p.id p.lsn p.cn p.cK p.cV = 0 then (if p.id = (i : Int) then (if ksB p.id p.cK p.cn 0 = true then 0 else 1) else 1) else pf p.id p.lsn p.cn p.cK p.cV) := rfl
  generalize pgF p i = C at *
  clear h
  go_enter Tryz.func151, Tryz.ntmps151
  go_wp2_with fail
  refine (implFault_any p.id p.lsn p.cn p.cK p.cV a cap _ (by omega) (HA.out.below (below_new _ _))).mono ?_
  rintro e w1 ⟨rfl, hb⟩
  have HB : Hid (Below w.heap.size w w1) := below_then (below_new _ _) hb
  have q0 : w1.cell? ⟨w.heap.size, 0, none⟩ = some (.int .i64 p.id) := by rw [(bcell29 hb).1 _ _ (by simp)]; simp [go_sem]
  have q1 : w1.cell? ⟨w.heap.size, 1, none⟩ = some (.int .i64 p.lsn) := by rw [(bcell29 hb).1 _ _ (by simp)]; simp [go_sem]
  have q2 : w1.cell? ⟨w.heap.size, 2, none⟩ = some (.slice a p.cn cap) := by rw [(bcell29 hb).1 _ _ (by simp)]; simp [go_sem]
  clear hb
  generalize pf p.id p.lsn p.cn p.cK p.cV = c at *
  by_cases h0 : c = 0
  · subst h0
    replace HP : Hid (C = _) := HP.out.trans (if_pos rfl)
    by_cases hi : p.id = (i : Int)
    · replace HP : Hid (C = _) := HP.out.trans (if_pos hi)
      have hi2 : (p.id != (i : Int)) = false := by simp [hi]
      clear hi
      go_wp2_with fail
      refine (keysStandIn_any p.id p.lsn p.cn p.cK p.cV a cap _ (by omega) (HA.out.below HB.out)).mono ?_
      rintro e w2 ⟨rfl, hb⟩
      obtain hk | hk := boolor (ksB p.id p.cK p.cn 0)
      · rw [hk]
        replace HP : Hid (C = 0) := HP.out.trans (if_pos hk)
        go_wp2_with fail
        go_ret
        exact ⟨ret_int HP.out.symm, below_then HB.out hb⟩
      · rw [hk]
        replace HP : Hid (C = 1) := HP.out.trans (if_neg (by simp [hk]))
        go_wp2_with fail
        go_ret
        exact ⟨ret_int HP.out.symm, below_then HB.out hb⟩
    · replace HP : Hid (C = 1) := HP.out.trans (if_neg hi)
      have hi2 : (p.id != (i : Int)) = true := by simp [hi]
      clear hi
      go_wp2_with fail
      go_ret
      exact ⟨ret_int HP.out.symm, HB.out⟩
  · replace HP : Hid (C = c) := HP.out.trans (if_neg h0)
    have h0' : (c != 0) = true := by simp [h0]
    clear h0
    go_wp2_with fail
    go_ret
    exact ⟨ret_int HP.out.symm, HB.out⟩
/-- From k on, f open ones. -/
def onF (nx : Int) (F : Nat → Int) : Nat → Nat → Int
  | 0, _ => 0
  | f + 1, k => if inB (F k) 1 (nx - 1) = true then (if 0 < k ∧ F k ≤ F (k - 1) then 1 else onF nx F f (k + 1)) else 3
theorem onF_at {nx : Int} {F : Nat → Int} {n k : Nat} (h : k < n) : onF nx F (n - k) k = if inB (F k) 1 (nx - 1) = true then (if 0 < k ∧ F k ≤ F (k - 1) then 1 else onF nx F (n - (k + 1)) (k + 1)) else 3 := by
  rw [show n - k = (n - (k + 1)) + 1 by omega]; rfl
/-- From k on, f that are held; L: who is open. -/
def hdF (L : List Int) (K V : Nat → Int) : Nat → Nat → Int
  | 0, _ => 0
  | f + 1, k => if inB (V k) 0 31 = true then (if decide (K k ∈ L) = true then (if 0 < k ∧ V k ≤ V (k - 1) then 1 else hdF L K V f (k + 1)) else 4) else 3
theorem hdF_at {L : List Int} {K V : Nat → Int} {n k : Nat} (h : k < n) : hdF L K V (n - k) k = if inB (V k) 0 31 = true then (if decide (K k ∈ L) = true then (if 0 < k ∧ V k ≤ V (k - 1) then 1 else hdF L K V (n - (k + 1)) (k + 1)) else 4) else 3 := by
  rw [show n - k = (n - (k + 1)) + 1 by omega]; rfl
theorem onF_good {nx : Int} {F : Nat → Int} {n : Nat} : ∀ d k, n - k = d → onF nx F (n - k) k = 0 → ∀ i, k ≤ i → i < n → (1 ≤ F i ∧ F i ≤ nx - 1) ∧ (0 < i → F (i - 1) < F i)
  | 0, k, h, _, i, h1, h2 => by omega
  | d + 1, k, h, e, i, h1, h2 => by
    rw [onF_at (by omega)] at e
    by_cases c1 : inB (F k) 1 (nx - 1) = true
    · rw [if_pos c1] at e
      by_cases c2 : 0 < k ∧ F k ≤ F (k - 1)
      · rw [if_pos c2] at e; omega
      · rw [if_neg c2] at e
        by_cases q : i = k
        · subst q
          exact ⟨inB_iff.1 c1, fun h0 => by omega⟩
        · exact onF_good d (k + 1) (by omega) e i (by omega) h2
    · rw [if_neg c1] at e; omega
theorem onF_rise {nx : Int} {F : Nat → Int} {n : Nat} (h : onF nx F n 0 = 0) : ∀ i, i < n → (i : Int) + 1 ≤ F i
  | 0, hi => (onF_good n 0 rfl h 0 (by omega) hi).1.1
  | i + 1, hi => by
    have h1 := onF_rise h i (by omega)
    have h2 := (onF_good n 0 rfl h (i + 1) (by omega) hi).2 (by omega)
    simp at h2
    omega
theorem onF_few {nx : Int} {F : Nat → Int} {n : Nat} (hx : nx ≤ 999) (h : onF nx F n 0 = 0) : n ≤ 998 := by
  rcases Nat.eq_zero_or_pos n with e | e
  · omega
  · have h1 := onF_rise h (n - 1) (by omega)
    have h2 := (onF_good n 0 rfl h (n - 1) (by omega) (by omega)).1.2
    omega
set_option maxHeartbeats 4000000 in
theorem openFault_any (nx : Int) (v1 v2 v3 v4 v5 v6 : Value) (n : Nat) (F : Nat → Int) (a : Option Addr) (cap : Nat) (w : World) (hx : 1 ≤ nx ∧ nx ≤ 999) (hn : n ≤ 1048576) (h : IntsAt w a n F) :
    Calls Tryz.prog 154 #[.agg #[.int .i64 nx, v1, v2, v3, v4, v5, v6, .slice a n cap]] w fun e w' => e = .returned (.int .i64 (onF nx F n 0)) ∧ Below w.heap.size w w' := by
  have HA : Hid (IntsAt w a n F) := h
  have hwn : IntKind.i64.wrap (nx - 1) = nx - 1 := by rw [IntKind.wrap_i64]; omega
  clear h
  go_enter Tryz.func154, Tryz.ntmps154
  go_wp2_with fail
  go_loopw [3, 4, 8] (fun _ _ i wr => ∃ k : Nat, k ≤ n ∧ i = .int .i64 k ∧ Hid (onF nx F n 0 = onF nx F (n - k) k) ∧ Hid (Below w.heap.size w wr) ∧ wr.cell? ⟨w.heap.size, 0, none⟩ = some (.int .i64 nx) ∧ wr.cell? ⟨w.heap.size, 7, none⟩ = some (.slice a n cap)) (fun _ _ i _ => n - (intOf i).toNat)
  case atStart => exact ⟨0, Nat.zero_le _, rfl, rfl, below_new _ _, by simp [go_sem], by simp [go_sem]⟩
  case round =>
    obtain ⟨k, hk, rfl, HC, HB, x0, x7⟩ := hrel
    by_cases hlt : k < n
    · have hlt' : (k : Int) < (n : Int) := by omega
      have hk0 : (0 : Int) ≤ (k : Int) := by omega
      have HAr : Hid (IntsAt wr a n F) := HA.out.below HB.out
      rcases HAr.out with h | ⟨b, off, rfl, hl, hc⟩
      · omega
      have g := hc k hlt
      have HE : Hid (onF nx F n 0 = _) := HC.out.trans (onF_at hlt)
      clear HC
      obtain c1 | c1 := boolor (inB (F k) 1 (nx - 1))
      · replace HE : Hid (onF nx F n 0 = _) := HE.out.trans (if_pos c1)
        rcases Nat.eq_zero_or_pos k with e0 | e0
        · have hd : decide ((0 : Int) < (k : Int)) = false := by simp; omega
          have hd2 : ¬ ((0 : Int) < (k : Int)) := by omega
          replace HE : Hid (onF nx F n 0 = onF nx F (n - (k + 1)) (k + 1)) := HE.out.trans (if_neg (by omega))
          clear hc e0
          go_wp2_with (first | (go_at_call 176; refine (within_any _ _ _ _).mono ?_; rintro e w' ⟨rfl, rfl⟩; rw [c1]))
          go_roundw
          case rel => exact ⟨k + 1, hlt, by go_num, HE, HB, x0, x7⟩
          case measure => simp [intOf]; omega
        · obtain ⟨j, rfl⟩ : ∃ j, k = j + 1 := ⟨k - 1, by omega⟩
          have g2 := hc j (by omega)
          have hj1 : (j : Int) < (n : Int) := by omega
          have hj2 : j < n := by omega
          have hd2 : (0 : Int) < ((j + 1 : Nat) : Int) := by omega
          have hwj : IntKind.i64.wrap (j : Int) = (j : Int) := by rw [IntKind.wrap_i64]; omega
          by_cases c2 : F (j + 1) ≤ F j
          · replace HE : Hid (onF nx F n 0 = 1) := HE.out.trans (if_pos ⟨by omega, c2⟩)
            clear hc
            go_wp2_with (first | (go_at_call 176; refine (within_any _ _ _ _).mono ?_; rintro e w' ⟨rfl, rfl⟩; rw [c1]))
            go_ret
            exact ⟨ret_int HE.out.symm, HB.out⟩
          · replace HE : Hid (onF nx F n 0 = onF nx F (n - (j + 1 + 1)) (j + 1 + 1)) := HE.out.trans (if_neg (by simp; omega))
            have c3 : decide (F (j + 1) ≤ F j) = false := by simp; omega
            clear hc
            go_wp2_with (first | (go_at_call 176; refine (within_any _ _ _ _).mono ?_; rintro e w' ⟨rfl, rfl⟩; rw [c1]))
            go_roundw
            case rel => exact ⟨j + 1 + 1, hlt, by go_num, HE, HB, x0, x7⟩
            case measure => simp [intOf]; omega
      · replace HE : Hid (onF nx F n 0 = 3) := HE.out.trans (if_neg (by simp [c1]))
        clear hc
        go_wp2_with (first | (go_at_call 176; refine (within_any _ _ _ _).mono ?_; rintro e w' ⟨rfl, rfl⟩; rw [c1]))
        go_ret
        exact ⟨ret_int HE.out.symm, HB.out⟩
    · have hnl : ¬ ((k : Int) < (n : Int)) := by omega
      have HE : Hid (onF nx F n 0 = 0) := HC.out.trans (by rw [show n - k = 0 by omega]; rfl)
      clear HC
      go_wp2_with fail
      go_ret
      exact ⟨ret_int HE.out.symm, HB.out⟩
set_option maxHeartbeats 4000000 in
theorem heldFault_any (v0 v1 v2 v3 v4 v5 : Value) (m : Nat) (K V : Nat → Int) (a : Option Addr) (cap : Nat) (n : Nat) (F : Nat → Int) (a' : Option Addr) (cap' : Nat) (w : World) (hm : m ≤ 1048576) (hn : n ≤ 100000) (h : CellsAt w a m K V) (h' : IntsAt w a' n F) :
    Calls Tryz.prog 155 #[.agg #[v0, v1, v2, v3, v4, v5, .slice a m cap, .slice a' n cap']] w fun e w' => e = .returned (.int .i64 (hdF (ivL F n) K V m 0)) ∧ Below w.heap.size w w' := by
  have HA : Hid (CellsAt w a m K V) := h
  have HA' : Hid (IntsAt w a' n F) := h'
  clear h h'
  go_enter Tryz.func155, Tryz.ntmps155
  go_wp2_with fail
  generalize hL : ivL F n = L
  have HL : Hid (ivL F n = L) := hL
  clear hL
  go_loopw [3, 4, 8] (fun _ _ i wr => ∃ k : Nat, k ≤ m ∧ i = .int .i64 k ∧ Hid (hdF L K V m 0 = hdF L K V (m - k) k) ∧ Hid (Below w.heap.size w wr) ∧ wr.cell? ⟨w.heap.size, 6, none⟩ = some (.slice a m cap) ∧ wr.cell? ⟨w.heap.size, 7, none⟩ = some (.slice a' n cap')) (fun _ _ i _ => m - (intOf i).toNat)
  case atStart => exact ⟨0, Nat.zero_le _, rfl, rfl, below_new _ _, by simp [go_sem], by simp [go_sem]⟩
  case round =>
    obtain ⟨k, hk, rfl, HC, HB, x6, x7⟩ := hrel
    by_cases hlt : k < m
    · have hlt' : (k : Int) < (m : Int) := by omega
      have hk0 : (0 : Int) ≤ (k : Int) := by omega
      have HAr : Hid (CellsAt wr a m K V) := HA.out.below HB.out
      rcases HAr.out with h | ⟨b, off, rfl, hl, h1, h2⟩
      · omega
      have g1 := h1 k hlt
      have g2 := h2 k hlt
      have HE : Hid (hdF L K V m 0 = _) := HC.out.trans (hdF_at hlt)
      clear HC
      -- the copy of the one that is held
      go_upto_region 4 with fail
      obtain ⟨W, hW⟩ : ∃ x, x = wr.alloc (.cells #[.int .i64 (K k), .int .i64 (V k)] 126) := ⟨_, rfl⟩
      have hBW : Below wr.heap.size wr W := by rw [hW]; exact below_new _ _
      have p0 : W.cell? ⟨wr.heap.size, 0, none⟩ = some (.int .i64 (K k)) := by rw [hW]; simp
      have p1 : W.cell? ⟨wr.heap.size, 1, none⟩ = some (.int .i64 (V k)) := by rw [hW]; simp
      rw [← hW]
      clear hW
      replace HB : Hid (Below w.heap.size w W) := below_then HB.out hBW
      have y6 := cell_below x6 hBW
      have y7 := cell_below x7 hBW
      have g3 : ∀ j, j < m → W.cell? ⟨b, off + j * 2 + 1, none⟩ = some (.int .i64 (V j)) := fun j hj => cell_below (h2 j hj) hBW
      have HI : Hid (IntsAt W a' n F) := HA'.out.below HB.out
      clear h1 h2 g1 g2 x6 x7 HAr hBW
      obtain c1 | c1 := boolor (inB (V k) 0 31)
      · replace HE : Hid (hdF L K V m 0 = _) := HE.out.trans (if_pos c1)
        obtain c2 | c2 := boolor (decide (K k ∈ L))
        · replace HE : Hid (hdF L K V m 0 = _) := HE.out.trans (if_pos c2)
          go_wp2_with (first | (go_at_call 135; refine (isKey_any _ _).mono ?_; rintro e w' ⟨rfl, rfl⟩; rw [c1]) | (go_at_call 123; refine (containsF_any F n a' cap' (K k) _ hn HI.out).mono ?_; rintro e w' ⟨rfl, hq⟩; rw [hq, HL.out, c2]; clear hq))
          rcases Nat.eq_zero_or_pos k with e0 | e0
          · have hd : decide ((0 : Int) < (k : Int)) = false := by simp; omega
            have hdn : decide (0 < k) = false := by simp; omega
            replace HE : Hid (hdF L K V m 0 = hdF L K V (m - (k + 1)) (k + 1)) := HE.out.trans (if_neg (by omega))
            clear g3 e0
            go_quiet (fail)
            go_wp2_with fail
            go_roundw
            case rel => exact ⟨k + 1, hlt, by go_num, HE, below_drewN HB.out _, by simpa [go_sem] using y6, by simpa [go_sem] using y7⟩
            case measure => simp [intOf]; omega
          · obtain ⟨j, rfl⟩ : ∃ j, k = j + 1 := ⟨k - 1, by omega⟩
            have g4 := g3 j (by omega)
            have hj1 : (j : Int) < (m : Int) := by omega
            have hj2 : j < m := by omega
            have hwj : IntKind.i64.wrap (j : Int) = (j : Int) := by rw [IntKind.wrap_i64]; omega
            by_cases c3 : V (j + 1) ≤ V j
            · replace HE : Hid (hdF L K V m 0 = 1) := HE.out.trans (if_pos ⟨by omega, c3⟩)
              clear g3
              go_quiet (fail)
              go_wp2_with fail
              go_ret
              exact ⟨ret_int (by rw [HL.out]; exact HE.out.symm), below_drewN HB.out _⟩
            · replace HE : Hid (hdF L K V m 0 = hdF L K V (m - (j + 1 + 1)) (j + 1 + 1)) := HE.out.trans (if_neg (by simp; omega))
              have c4 : decide (V (j + 1) ≤ V j) = false := by simp; omega
              clear g3
              go_quiet (fail)
              go_wp2_with fail
              go_roundw
              case rel => exact ⟨j + 1 + 1, hlt, by go_num, HE, below_drewN HB.out _, by simpa [go_sem] using y6, by simpa [go_sem] using y7⟩
              case measure => simp [intOf]; omega
        · replace HE : Hid (hdF L K V m 0 = 4) := HE.out.trans (if_neg (by simp [c2]))
          clear g3
          go_wp2_with (first | (go_at_call 135; refine (isKey_any _ _).mono ?_; rintro e w' ⟨rfl, rfl⟩; rw [c1]) | (go_at_call 123; refine (containsF_any F n a' cap' (K k) _ hn HI.out).mono ?_; rintro e w' ⟨rfl, hq⟩; rw [hq, HL.out, c2]; clear hq))
          go_ret
          exact ⟨ret_int (by rw [HL.out]; exact HE.out.symm), HB.out⟩
      · replace HE : Hid (hdF L K V m 0 = 3) := HE.out.trans (if_neg (by simp [c1]))
        clear g3
        go_wp2_with (first | (go_at_call 135; refine (isKey_any _ _).mono ?_; rintro e w' ⟨rfl, rfl⟩; rw [c1]))
        go_ret
        exact ⟨ret_int (by rw [HL.out]; exact HE.out.symm), HB.out⟩
    · have hnl : ¬ ((k : Int) < (m : Int)) := by omega
      have HE : Hid (hdF L K V m 0 = 0) := HC.out.trans (by rw [show m - k = 0 by omega]; rfl)
      clear HC
      go_wp2_with fail
      go_ret
      exact ⟨ret_int (by rw [HL.out]; exact HE.out.symm), HB.out⟩
end Go.Proofs.YtaokclhcmgbgnaaGreat
