/- Both LogFaults, both RecsOfs. -/
import Derived.Test.YtnplheilojhpmaaGreatQRg
namespace Go.Proofs.YtnplheilojhpmaaGreat
open Go.RowKit Go.Deep
set_option linter.unusedVariables false
set_option maxRecDepth 20000

/-- Behind the first append: what is needed for the second. -/
theorem all_step {w w6 : World} {L : Lo} {a1 a2 : Option Addr} {c1 c2 : Nat} {v6 : Value} (h : LogAt w a1 a2 L)
    (hg : ((w.alloc (.cells #[.slice a1 L.n1 c1, .slice a2 L.n2 c2] 42)).alloc (.cells #[] 5)).drew.grownBy w6 (some (w.heap.size + 1))) :
    w6.cell? ⟨w.heap.size, 1, none⟩ = some (.slice a2 L.n2 c2) ∧ BytesAt w6 a2 L.n2 L.z2 ∧ Below w.heap.size w w6 ∧ w.heap.size + 1 ≤ w6.heap.size := by
  have hsz : ((w.alloc (.cells #[.slice a1 L.n1 c1, .slice a2 L.n2 c2] 42)).alloc (.cells #[] 5)).drew.heap.size = w.heap.size + 2 := by show ((w.alloc _).alloc _).heap.size = _; rw [World.size_alloc, World.size_alloc]
  have hblk : ∀ q, q < w.heap.size + 1 → w6.heap[q]? = (w.alloc (.cells #[.slice a1 L.n1 c1, .slice a2 L.n2 c2] 42)).heap[q]? := fun q hq => by
    rw [hg.block q (by rw [hsz]; omega) (by intro e; simp at e; omega)]
    show ((w.alloc _).alloc _).heap[q]? = _
    rw [Below.heap_alloc _ _ _ (by rw [World.size_alloc]; omega)]
  have hB : Below w.heap.size w w6 := ⟨hg.os, hg.tape, hg.output, by have := hg.size; rw [hsz] at this; omega, fun q hq => (hblk q (by omega)).trans (Below.heap_alloc _ _ _ hq)⟩
  refine ⟨?_, h.2.below hB, hB, by have := hg.size; rw [hsz] at this; omega⟩
  rw [World.cell?_of_block (w := w.alloc (.cells #[.slice a1 L.n1 c1, .slice a2 L.n2 c2] 42)) (a := ⟨w.heap.size, 1, none⟩) (hblk w.heap.size (by omega))]
  simp
theorem all_own0 (w : World) (o : Obj) : ((w.alloc o).alloc (.cells #[] 5)).drew.ownsRow (w.heap.size + 1) 5 1 (.slice (some ⟨w.heap.size + 1, 0, none⟩) 0 0) ([] : List Int).length (bl []) := by
  have h := World.ownsRow_lit (base := w.heap.size + 1) (size := 1) (e := 5) (w.alloc o) #[] 0 (by simp) (by unfold maxLen; omega) rfl
  rw [World.size_alloc] at h
  exact h
set_option maxHeartbeats 4000000 in
theorem l3All_any (L : Lo) (a1 a2 : Option Addr) (c1 c2 : Nat) (w : World) (hs : L.n1 + L.n2 ≤ 90000) (h : LogAt w a1 a2 L) :
    Calls Tryz.prog 81 #[.agg #[.slice a1 L.n1 c1, .slice a2 L.n2 c2]] w fun e w' => ∃ v, e = .returned v ∧ Below w.heap.size w w' ∧ AllAt w' w.heap.size v L := by
  have HA : Hid (LogAt w a1 a2 L) := h
  have hba1 : BytesAt ((w.alloc (.cells #[.slice a1 L.n1 c1, .slice a2 L.n2 c2] 42)).alloc (.cells #[] 5)).drew a1 L.n1 L.z1 := (h.1.below (below_new _ _)).below ((below_new _ _).drew)
  have hl1 : ([] : List Int).length + L.n1 ≤ 100000 := by simp; omega
  have hl2 : ([] ++ zL L.z1 L.n1).length + L.n2 ≤ 100000 := by simp [zL_len]; omega
  have hbs : w.heap.size + 1 ≤ ((w.alloc (.cells #[.slice a1 L.n1 c1, .slice a2 L.n2 c2] 42)).alloc (.cells #[] 5)).drew.heap.size := by show _ ≤ ((w.alloc _).alloc _).heap.size; rw [World.size_alloc, World.size_alloc]; omega
  have b0 : (w.alloc (.cells #[.slice a1 L.n1 c1, .slice a2 L.n2 c2] 42)).cell? ⟨w.heap.size, 0, none⟩ = some (.slice a1 L.n1 c1) := by simp
  have b1 : (w.alloc (.cells #[.slice a1 L.n1 c1, .slice a2 L.n2 c2] 42)).cell? ⟨w.heap.size, 1, none⟩ = some (.slice a2 L.n2 c2) := by simp
  have HBA : Hid (BytesAt ((w.alloc (.cells #[.slice a1 L.n1 c1, .slice a2 L.n2 c2] 42)).alloc (.cells #[] 5)).drew a1 L.n1 L.z1) := hba1
  have HL1 : Hid (([] : List Int).length + L.n1 ≤ 100000) := hl1
  have HL2 : Hid (([] ++ zL L.z1 L.n1).length + L.n2 ≤ 100000) := hl2
  have HBS : Hid (w.heap.size + 1 ≤ ((w.alloc (.cells #[.slice a1 L.n1 c1, .slice a2 L.n2 c2] 42)).alloc (.cells #[] 5)).drew.heap.size) := hbs
  clear h hba1 hl1 hl2 hbs b0 b1
  go_enter Tryz.func81, Tryz.ntmps81
  go_wp2_with fail
  go_region_law (first | (refine step_appZ _ rfl (.tmp 3) (.tmp 5) rfl (w.heap.size + 1) (.slice (some ⟨w.heap.size + 1, 0, none⟩) 0 0) [] rfl (all_own0 _ _) a1 L.n1 c1 L.z1 rfl HBA.out HL1.out HBS.out ?_; intro v6 w6 ho6 hg6; obtain ⟨k1, hba2, hB6, hz6⟩ := all_step (v6 := v6) HA.out hg6) | (refine step_appZ _ rfl (.tmp 6) (.tmp 8) rfl (w.heap.size + 1) v6 ([] ++ zL L.z1 L.n1) rfl ho6 a2 L.n2 c2 L.z2 rfl hba2 HL2.out hz6 ?_; intro v9 w9 ho9 hg9; have HB9 : Hid (Below w.heap.size w w9) := hB6.grown hg9 hB6.size (fun q hq => by have := (ho6.lt q hq).1; omega); have HO9 : Hid (w9.ownsRow (w.heap.size + 1) 5 1 v9 (([] ++ zL L.z1 L.n1) ++ zL L.z2 L.n2).length (bl (([] ++ zL L.z1 L.n1) ++ zL L.z2 L.n2))) := ho9))
  all_goals
    clear ho6 hg6 k1 hba2 hB6 hz6 ho9 hg9
    go_wp2_with fail
    go_ret
    exact ⟨v9, rfl, HB9.out, allAt_of (rowB_down HO9.out (by omega))⟩
set_option maxHeartbeats 4000000 in
theorem specLf_any (L : Lo) (a1 a2 : Option Addr) (c1 c2 : Nat) (w : World) (hn1 : L.n1 ≤ 1048576) (hn2 : L.n2 ≤ 1048576) (hby : LogByt L) (h : LogAt w a1 a2 L) :
    Calls Tryz.prog 48 #[.agg #[.slice a1 L.n1 c1, .slice a2 L.n2 c2]] w fun e w' => e = .returned (.int .i64 (lgC L)) ∧ Below w.heap.size w w' := by
  have HA : Hid (LogAt w a1 a2 L) := h
  have HY : Hid (LogByt L) := hby
  have hwr : IntKind.i64.wrap ((L.n1 : Int) + (L.n2 : Int)) = (L.n1 : Int) + (L.n2 : Int) := by rw [IntKind.wrap_i64]; omega
  clear h hby
  by_cases hm : 4000 < L.n1 + L.n2
  · have hm' : 4000 < (L.n1 : Int) + (L.n2 : Int) := by omega
    have HC : Hid (lgC L = 2) := lgC_many hm
    go_enter Tryz.func48, Tryz.ntmps48
    go_wp2_with fail
    go_ret
    exact ⟨ret_int HC.out.symm, below_new _ _⟩
  · have hm' : ¬ (4000 < (L.n1 : Int) + (L.n2 : Int)) := by omega
    go_enter Tryz.func48, Tryz.ntmps48
    go_wp2_with fail
    refine (l3All_any L a1 a2 c1 c2 _ (by omega) (HA.out.below (below_new _ _))).mono ?_
    rintro e w1 ⟨v1, rfl, hb1, hall⟩
    obtain ⟨ra, rc, rfl, hrc, ho1, hcond⟩ := hall
    obtain ⟨b, hcd⟩ := AllAt.cond (rc := rc) hcond
    have HB1 : Hid (Below w.heap.size w w1) := below_then (below_new _ _) hb1
    have HCD : Hid (L.n1 + L.n2 = 0 ∨ ra = some ⟨b, 0, none⟩ ∧ b < w1.heap.size ∧ BA w1 b 0 (L.n1 + L.n2) (aZ L)) := hcd
    clear hb1 ho1 hcond hcd
    go_wp2_with fail
    refine (l3Recs_any (L.n1 + L.n2) (aZ L) ra b 0 rc w1 hrc (by omega) (aZ_byt HY.out) HCD.out).mono ?_
    rintro e w2 ⟨rb, rcp, rfl, hb2, ho2⟩
    have HB2 : Hid (Below w.heap.size w w2) := below_then HB1.out hb2
    clear hb2 ho2
    by_cases hc : 13 * cnt (aZ L) (L.n1 + L.n2) = L.n1 + L.n2
    · have HC : Hid (lgC L = 0) := lgC_ok hm hc
      have hd : (13 * (cnt (aZ L) (L.n1 + L.n2) : Int) != ((L.n1 + L.n2 : Nat) : Int)) = false := by simp; omega
      generalize cnt (aZ L) (L.n1 + L.n2) = m at *
      clear hc
      go_wp2_with fail
      go_ret
      exact ⟨ret_int HC.out.symm, HB2.out⟩
    · have HC : Hid (lgC L = 5) := lgC_text hm hc
      have hd : (13 * (cnt (aZ L) (L.n1 + L.n2) : Int) != ((L.n1 + L.n2 : Nat) : Int)) = true := by simp; omega
      generalize cnt (aZ L) (L.n1 + L.n2) = m at *
      clear hc
      go_wp2_with fail
      go_ret
      exact ⟨ret_int HC.out.symm, HB2.out⟩
theorem field_code3 (c u : Int) (v : Value) (w : World) : (Instr.field 109 (.agg #[.int .i64 c, .int .i64 u, v]) 0).run Tryz.prog w = .ok (.int .i64 c) w := by kernel_rfl
theorem implLf_any (L : Lo) (a1 a2 : Option Addr) (c1 c2 : Nat) (w : World) (hn1 : L.n1 ≤ 1048576) (hn2 : L.n2 ≤ 1048576) (hby : LogByt L) (h : LogAt w a1 a2 L) :
    Calls Tryz.prog 62 #[.agg #[.slice a1 L.n1 c1, .slice a2 L.n2 c2]] w fun e w' => e = .returned (.int .i64 (lgC L)) ∧ Below w.heap.size w w' := by
  have HA : Hid (LogAt w a1 a2 L) := h
  have HY : Hid (LogByt L) := hby
  have hfc := field_code3
  clear h hby
  go_enter Tryz.func62, Tryz.ntmps62
  go_wp2_with fail
  refine (readLog_any L a1 a2 c1 c2 _ hn1 hn2 HY.out (HA.out.below (below_new _ _))).mono ?_
  rintro e w1 ⟨ra, rcp, u, m, rfl, -, hb1, -⟩
  go_wp2_with fail
  go_ret
  exact ⟨rfl, below_then (below_new _ _) hb1⟩
end Go.Proofs.YtnplheilojhpmaaGreat
