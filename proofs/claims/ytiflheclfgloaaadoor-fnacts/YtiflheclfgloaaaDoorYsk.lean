/- The model's l15Act. -/
import Derived.Test.YtiflheclfgloaaaDoorYsb
import Derived.Test.YtiflheclfgloaaaDoorYsf
import Derived.Test.YtiflheclfgloaaaDoorYsj
namespace Go.Proofs.YtiflheclfgloaaaDoor
open Go.RowKit Go.Deep
set_option linter.unusedVariables false
set_option maxRecDepth 20000

/-- The act that is answered. -/
def actA (L : List ByteArray) : Array Value := if okA L = true then #[.int .i64 (kindP L), .int .i64 (nA L 1), .int .i64 (nA L 2), .int .i64 (nA L 3)] else #[.int .i64 0, .int .i64 0, .int .i64 0, .int .i64 0]
theorem actA_no {L : List ByteArray} (h : okA L = false) : actA L = #[.int .i64 0, .int .i64 0, .int .i64 0, .int .i64 0] ∧ okA L = false := ⟨by simp [actA, h], h⟩
theorem actA_yes {L : List ByteArray} (h : okA L = true) : actA L = #[.int .i64 (kindP L), .int .i64 (nA L 1), .int .i64 (nA L 2), .int .i64 (nA L 3)] ∧ okA L = true := ⟨by simp [actA, h], h⟩
def kz (kd : Int) (o : Nat) : Int := if o = 0 then kd else 0
theorem below_dN {n : Nat} {w w1 : World} (h : Below n w w1) (m : Nat) : Below n w (w1.drewN m) := by
  obtain ⟨h1, h2, h3, h4, h5⟩ := h
  exact ⟨h1, h2, h3, h4, h5⟩
theorem tl_neK {a b : ByteArray} (h : ¬ a = b) : (a.toList == b.toList) = false := by
  refine beq_eq_false_iff_ne.2 fun e => h ?_
  rw [ByteArray.toList_eq, ByteArray.toList_eq] at e
  exact Go.WideShapes.bytes_inj e
/-- The two boxes of l15Act. -/
def Akw (w wr : World) (kd : Int) : Prop :=
  Below w.heap.size w wr ∧ w.heap.size + 2 ≤ wr.heap.size ∧ (∀ o, o < 4 → wr.cell? ⟨w.heap.size, o, none⟩ = some (.int .i64 0) ∧ wr.frozen? ⟨w.heap.size, o, none⟩ = false) ∧
    (∀ o, o < 4 → wr.cell? ⟨w.heap.size + 1, o, none⟩ = some (.int .i64 (kz kd o)) ∧ wr.frozen? ⟨w.heap.size + 1, o, none⟩ = false)
theorem Akw.new (w : World) : Akw w ((w.alloc (.cells #[.int .i64 0, .int .i64 0, .int .i64 0, .int .i64 0] 23)).alloc (.cells #[.int .i64 0, .int .i64 0, .int .i64 0, .int .i64 0] 23)) 0 := by
  refine ⟨(below_new _ _).alloc (by simp) _, by simp, fun o ho => ?_, fun o ho => ?_⟩
  · match o, ho with
    | 0, _ => simp
    | 1, _ => simp
    | 2, _ => simp
    | 3, _ => simp
  · match o, ho with
    | 0, _ => simp [kz]
    | 1, _ => simp [kz]
    | 2, _ => simp [kz]
    | 3, _ => simp [kz]
theorem Akw.below {w wr w1 : World} {kd : Int} (h : Akw w wr kd) (hb : Below wr.heap.size wr w1) : Akw w w1 kd := by
  obtain ⟨h1, h2, h3, h4⟩ := h
  obtain ⟨e1, e2⟩ := bcell hb
  refine ⟨h1.trans (hb.mono h1.size), Nat.le_trans h2 hb.size, fun o ho => ?_, fun o ho => ?_⟩
  · rw [e1 _ _ (by omega), e2 _ _ (by omega)]; exact h3 o ho
  · rw [e1 _ _ (by omega), e2 _ _ (by omega)]; exact h4 o ho
theorem Akw.set {w wr : World} {kd : Int} (h : Akw w wr kd) (q : Int) : Akw w (wr.setCell ⟨w.heap.size + 1, 0, none⟩ (.int .i64 q)) q := by
  obtain ⟨h1, h2, h3, h4⟩ := h
  refine ⟨Below.setCell h1 (by simp) _, by rw [World.size_setCell]; exact h2, fun o ho => ?_, fun o ho => ?_⟩
  · rw [World.cell?_setCell_far _ _ _ _ (by simp), World.frozen?_setCell]; exact h3 o ho
  · rw [World.frozen?_setCell]
    refine ⟨?_, (h4 o ho).2⟩
    by_cases e : o = 0
    · subst e; rw [setS (h4 0 ho).1]; simp [kz]
    · rw [setO (by omega), (h4 o ho).1]; simp [kz, e]
/-- Words and names beside them. -/
def Awn (w wr : World) (pb po nb : Nat) (L : List ByteArray) : Prop :=
  w.heap.size + 2 ≤ pb ∧ w.heap.size + 2 ≤ nb ∧ (∀ i, i < L.length → wr.cell? ⟨pb, po + i, none⟩ = some (.string (sg L i))) ∧ ∀ k, k < 8 → wr.cell? ⟨nb, k, none⟩ = some (.string (fw k))
theorem Awn.below {w wr w1 : World} {pb po nb : Nat} {L : List ByteArray} (h : Awn w wr pb po nb L) (hb : Below wr.heap.size wr w1) : Awn w w1 pb po nb L :=
  ⟨h.1, h.2.1, fun i hi => cell_below (h.2.2.1 i hi) hb, fun k hk => cell_below (h.2.2.2 k hk) hb⟩
theorem Awn.set {w wr : World} {pb po nb : Nat} {L : List ByteArray} (h : Awn w wr pb po nb L) (o : Nat) (v : Value) : Awn w (wr.setCell ⟨w.heap.size + 1, o, none⟩ v) pb po nb L := by
  obtain ⟨h1, h2, h3, h4⟩ := h
  refine ⟨h1, h2, fun i hi => ?_, fun k hk => ?_⟩
  · rw [World.cell?_setCell_far _ _ _ _ (by simp; omega)]; exact h3 i hi
  · rw [World.cell?_setCell_far _ _ _ _ (by simp; omega)]; exact h4 k hk
/-- The numbers so far. -/
def nkM (L : List ByteArray) (k j : Nat) : Int := if j < k then numV (sg L (j + 1)) else 0
def Anw (wr : World) (B : Nat) (L : List ByteArray) (k : Nat) : Prop := ∀ j, j < 3 → wr.cell? ⟨B, j, none⟩ = some (.int .i64 (nkM L k j)) ∧ wr.frozen? ⟨B, j, none⟩ = false
theorem Anw.put {wr : World} {B q : Nat} {L : List ByteArray} (h : Anw wr B L q) (hq : q < 3) : Anw (wr.setCell ⟨B, q, none⟩ (.int .i64 (numV (sg L (q + 1))))) B L (q + 1) := fun j hj => by
  rw [World.frozen?_setCell]
  refine ⟨?_, (h j hj).2⟩
  by_cases e : j = q
  · subst e; rw [setS (h j hj).1]; simp [nkM]
  · rw [setO (by omega), (h j hj).1]
    have : (j < q + 1) ↔ (j < q) := by omega
    simp only [nkM, this]
theorem Akw.far {w wr : World} {kd : Int} {B : Nat} (h : Akw w wr kd) (o : Nat) (v : Value) (hB : w.heap.size + 2 ≤ B) : Akw w (wr.setCell ⟨B, o, none⟩ v) kd := by
  obtain ⟨h1, h2, h3, h4⟩ := h
  refine ⟨Below.setCell h1 (by simp; omega) _, by rw [World.size_setCell]; exact h2, fun o ho => ?_, fun o ho => ?_⟩
  · rw [World.cell?_setCell_far _ _ _ _ (by simp; omega), World.frozen?_setCell]; exact h3 o ho
  · rw [World.cell?_setCell_far _ _ _ _ (by simp; omega), World.frozen?_setCell]; exact h4 o ho
theorem Awn.far {w wr : World} {pb po nb B : Nat} {L : List ByteArray} (h : Awn w wr pb po nb L) (o : Nat) (v : Value) (h1 : B ≠ pb) (h2 : B ≠ nb) : Awn w (wr.setCell ⟨B, o, none⟩ v) pb po nb L := by
  obtain ⟨k1, k2, h3, h4⟩ := h
  refine ⟨k1, k2, fun i hi => ?_, fun k hk => ?_⟩
  · rw [World.cell?_setCell_far _ _ _ _ (by simpa using h1)]; exact h3 i hi
  · rw [World.cell?_setCell_far _ _ _ _ (by simpa using h2)]; exact h4 k hk
theorem wds_ne (s : ByteArray) : ∀ i, i < (wds s).length → 1 ≤ (sg (wds s) i).size := fun i hi => by
  have e : sg (wds s) i = (wds s)[i] := by simp only [sg, List.getD, List.getElem?_eq_getElem hi, Option.getD_some]
  have hm := List.getElem_mem hi
  rw [← e] at hm
  have := of_decide_eq_true (List.mem_filter.1 hm).2
  omega
def ARes (w : World) (L : List ByteArray) (e : Ending) (w' : World) : Prop := e = .returned (.tuple #[.agg (actA L), .bool (okA L)]) ∧ Below w.heap.size w w'
theorem ares_no {w w' : World} {L : List ByteArray} (h : actA L = #[.int .i64 0, .int .i64 0, .int .i64 0, .int .i64 0] ∧ okA L = false) (hb : Below w.heap.size w w') : ARes w L (.returned (.tuple #[.agg #[.int .i64 0, .int .i64 0, .int .i64 0, .int .i64 0], .bool false])) w' := ⟨by rw [h.1, h.2], hb⟩
set_option maxHeartbeats 2000000 in
theorem l15Act_any (s : ByteArray) (w : World) (hn : s.size ≤ 1048576) : Calls Tryd.prog 16 #[.string s] w (ARes w (wds s)) := by
  have hlen := wds_len s
  have H0 := Akw.new w
  obtain ⟨L, hL⟩ : ∃ L, wds s = L := ⟨_, rfl⟩
  have HNL : Hid (∀ p, p < s.size → bt s p = 10 → okA L = false) := fun p hp h => by rw [← hL]; exact okA_nl hp h
  have HLW : Hid (wds s = L) := hL
  have HNE : Hid (∀ i, i < L.length → 1 ≤ (sg L i).size) := by rw [← hL]; exact wds_ne s
  rw [hL] at hlen ⊢
  clear hL
  go_enter Tryd.func16, Tryd.ntmps16
  go_wp2_with fail
  go_loopw [5] (fun i wr => ∃ k : Nat, k ≤ s.size ∧ i = .int .i64 k ∧ Hid (Akw w wr 0)) (fun i _ => s.size - (intOf i).toNat)
  case atStart => exact ⟨0, Nat.zero_le _, rfl, H0⟩
  case round =>
    clear H0
    obtain ⟨k, hk, rfl, HK⟩ := hrel
    by_cases hlt : k < s.size
    · have hlt' : (k : Int) < (s.size : Int) := by omega
      have h0 : (0 : Int) ≤ (k : Int) := by omega
      have hbt := bt_at s k hlt
      by_cases h10 : bt s k = 10
      · have HA : Hid (actA L = #[.int .i64 0, .int .i64 0, .int .i64 0, .int .i64 0] ∧ okA L = false) := actA_no (HNL.out k hlt h10)
        have HBx : Hid (Below w.heap.size w wr) := HK.out.1
        obtain ⟨z0, f0⟩ := HK.out.2.2.1 0 (by omega)
        obtain ⟨z1, f1⟩ := HK.out.2.2.1 1 (by omega)
        obtain ⟨z2, f2⟩ := HK.out.2.2.1 2 (by omega)
        obtain ⟨z3, f3⟩ := HK.out.2.2.1 3 (by omega)
        obtain ⟨y0, g0⟩ := HK.out.2.2.2 0 (by omega)
        obtain ⟨y1, g1⟩ := HK.out.2.2.2 1 (by omega)
        obtain ⟨y2, g2⟩ := HK.out.2.2.2 2 (by omega)
        obtain ⟨y3, g3⟩ := HK.out.2.2.2 3 (by omega)
        simp [kz] at y0 y1 y2 y3
        go_wp2_with fail
        (try simp only [Exit.inBlock, Exit.then])
        refine bodyPost_ret (v := .tuple #[.agg #[.int .i64 0, .int .i64 0, .int .i64 0, .int .i64 0], .bool false]) (by simp [results, Tryd.results16, go_sem, z0, z1, z2, z3]) rfl ?_
        refine ares_no HA.out ?_
        repeat (first | with_reducible exact HBx.out | with_reducible refine Below.setCell ?_ (by first | omega | (simp <;> omega)) _)
      · have hne : (bt s k == 10) = false := by simp [h10]
        clear h10
        go_wp2_with fail
        go_roundw
        case rel => exact ⟨k + 1, hlt, by go_num, HK⟩
        case measure => simp [intOf]; omega
    · have hge : ¬ (k : Int) < (s.size : Int) := by omega
      go_wp2_with fail
      refine (l15Words_any s _ hn).mono ?_
      rintro e w1 ⟨v, rfl, hB1, hO1⟩
      rw [HLW.out] at hO1
      obtain ⟨pa, pcap, rfl, hpc, hat⟩ := strs_of_own hO1
      have hlt1 := hO1.lt
      have HK1 : Hid (Akw w w1 0) := HK.out.below hB1
      have hsz := HK.out.2.1
      clear hB1 hO1 HK
      go_wp2_with fail
      refine (l15Names_any _).mono ?_
      rintro e w2 ⟨rfl, hB2, hsz2, hnm⟩
      have HK2 : Hid (Akw w w2 0) := HK1.out.below hB2
      have hsz1 := HK1.out.2.1
      by_cases hl0 : L.length = 0
      · have HA : Hid (actA L = #[.int .i64 0, .int .i64 0, .int .i64 0, .int .i64 0] ∧ okA L = false) := actA_no (by
          have : L = [] := List.eq_nil_of_length_eq_zero hl0
          subst this
          rfl)
        have hl1 : ¬ (0 : Int) < (L.length : Int) := by omega
        have hgd : decide ((0 : Int) < (L.length : Int)) = false := decide_eq_false hl1
        have HBx : Hid (Below w.heap.size w w2) := HK2.out.1
        obtain ⟨z0, f0⟩ := HK2.out.2.2.1 0 (by omega)
        obtain ⟨z1, f1⟩ := HK2.out.2.2.1 1 (by omega)
        obtain ⟨z2, f2⟩ := HK2.out.2.2.1 2 (by omega)
        obtain ⟨z3, f3⟩ := HK2.out.2.2.1 3 (by omega)
        obtain ⟨y0, g0⟩ := HK2.out.2.2.2 0 (by omega)
        obtain ⟨y1, g1⟩ := HK2.out.2.2.2 1 (by omega)
        obtain ⟨y2, g2⟩ := HK2.out.2.2.2 2 (by omega)
        obtain ⟨y3, g3⟩ := HK2.out.2.2.2 3 (by omega)
        simp [kz] at y0 y1 y2 y3
        clear hl0
        go_wp2_with fail
        go_loopw [8] (fun i wr => i = .int .i64 1 ∧ Hid (wr = w2)) (fun i _ => 0)
        case atStart => exact ⟨rfl, rfl⟩
        case round =>
          obtain ⟨rfl, hww⟩ := hrel
          have hw2 := hww.out
          subst hw2
          go_wp2_with fail
          refine bodyPost_ret (v := .tuple #[.agg #[.int .i64 0, .int .i64 0, .int .i64 0, .int .i64 0], .bool false]) (by simp [results, Tryd.results16, go_sem, z0, z1, z2, z3]) rfl ?_
          refine ares_no HA.out ?_
          repeat (first | with_reducible exact HBx.out | with_reducible refine Below.setCell ?_ (by first | omega | (simp <;> omega)) _)
      · rcases hat with h | ⟨pb, po, rfl, hpb, hcell⟩
        · omega
        have hpl : w.heap.size + 2 ≤ pb := by
          have := (hlt1 pb (by simp [Value.ownBlock])).1
          omega
        have HW2 : Hid (Awn w w2 pb po w1.heap.size L) := ⟨hpl, hsz1, fun i hi => cell_below (hcell i hi) hB2, hnm⟩
        obtain ⟨nb, hnb⟩ : ∃ nb, nb = w1.heap.size := ⟨_, rfl⟩
        rw [← hnb] at HW2 ⊢
        clear hcell hB2 hnm HK1 hnb
        have hl1 : (0 : Int) < (L.length : Int) := by omega
        have hgd : decide ((0 : Int) < (L.length : Int)) = true := decide_eq_true hl1
        go_wp2_with fail
        go_loopw [8] (fun i wr => ∃ k : Nat, 1 ≤ k ∧ k ≤ 8 ∧ i = .int .i64 k ∧ Hid (Akw w wr (nmq (sg L 0) (k - 1))) ∧ Hid (Awn w wr pb po nb L)) (fun i _ => 8 - (intOf i).toNat)
        case atStart => exact ⟨1, Nat.le_refl _, by omega, rfl, HK2, HW2⟩
        case round =>
          clear HK2 HW2
          obtain ⟨k, hk1, hk8, rfl, HK, HW⟩ := hrel
          by_cases hlt : k < 8
          · have hlt' : (k : Int) < 8 := by omega
            have hg1 : decide ((k : Int) < 8) = true := by simp; omega
            have h0 : (0 : Int) ≤ (k : Int) := by omega
            have c0 := HW.out.2.2.1 0 (by omega)
            rw [Nat.add_zero] at c0
            have c1 := HW.out.2.2.2 k hlt
            by_cases he : fw k = sg L 0
            · have HE : Hid (nmq (sg L 0) k = k) := by
                obtain ⟨m, rfl⟩ : ∃ m, k = m + 1 := ⟨k - 1, by omega⟩
                show nmq (sg L 0) (m + 1) = m + 1
                simp only [nmq, if_pos he]
              have HEE : Hid (fw k = sg L 0) := he
              rw [he] at c1
              clear he
              go_upto_region 12 with fail
              go_quiet (fail)
              obtain ⟨W1, hW1⟩ : ∃ W1, W1 = wr.drewN nq := ⟨_, rfl⟩
              have HK1 : Hid (Akw w W1 (nmq (sg L 0) (k - 1))) := by rw [hW1]; exact HK.out.below (below_dN (Below.refl _ _) _)
              have HW1 : Hid (Awn w W1 pb po nb L) := by rw [hW1]; exact HW.out.below (below_dN (Below.refl _ _) _)
              rw [← hW1]
              have HK2 : Hid (Akw w (W1.setCell ⟨w.heap.size + 1, 0, none⟩ (.int .i64 k)) (nmq (sg L 0) k)) := by
                have h := HK1.out.set k
                rw [HE.out]
                exact h
              have HW2 : Hid (Awn w (W1.setCell ⟨w.heap.size + 1, 0, none⟩ (.int .i64 k)) pb po nb L) := HW1.out.set 0 _
              obtain ⟨y0, g0⟩ := HK1.out.2.2.2 0 (by omega)
              clear hW1 c0 c1
              go_wp2_with fail
              go_roundw
              case rel => exact ⟨k + 1, by omega, by omega, by go_num, HK2, HW2⟩
              case measure => simp [intOf]; omega
            · have HE : Hid (nmq (sg L 0) k = nmq (sg L 0) (k - 1)) := by
                obtain ⟨m, rfl⟩ : ∃ m, k = m + 1 := ⟨k - 1, by omega⟩
                show nmq (sg L 0) (m + 1) = nmq (sg L 0) m
                simp only [nmq, if_neg he]
              have he2 := tl_neK he
              clear he
              go_upto_region 12 with fail
              go_quiet (fail)
              have HK1 : Hid (Akw w (wr.drewN nq) (nmq (sg L 0) k)) := by rw [HE.out]; exact HK.out.below (below_dN (Below.refl _ _) _)
              have HW1 : Hid (Awn w (wr.drewN nq) pb po nb L) := HW.out.below (below_dN (Below.refl _ _) _)
              go_wp2_with fail
              go_roundw
              case rel => exact ⟨k + 1, by omega, by omega, by go_num, HK1, HW1⟩
              case measure => simp [intOf]; omega
          · have hk : k = 8 := by omega
            subst hk
            have hg1 : decide ((8 : Int) < 8) = false := by simp
            obtain ⟨m, hm⟩ : ∃ m, nmq (sg L 0) 7 = m := ⟨_, rfl⟩
            have HKN : Hid (kindP L = if m ≠ 0 ∧ L.length = fc m + 1 then m else 0) := by rw [← hm]; exact kind_name L
            have HK7 : Hid (Akw w wr m) := by rw [← hm]; exact HK.out
            have hm7 : m ≤ 7 := by rw [← hm]; exact nmq_le _ _
            clear hm HK
            have HBx : Hid (Below w.heap.size w wr) := HK7.out.1
            obtain ⟨z0, f0⟩ := HK7.out.2.2.1 0 (by omega)
            obtain ⟨z1, f1⟩ := HK7.out.2.2.1 1 (by omega)
            obtain ⟨z2, f2⟩ := HK7.out.2.2.1 2 (by omega)
            obtain ⟨z3, f3⟩ := HK7.out.2.2.1 3 (by omega)
            obtain ⟨y0, g0⟩ := HK7.out.2.2.2 0 (by omega)
            obtain ⟨y1, g1⟩ := HK7.out.2.2.2 1 (by omega)
            obtain ⟨y2, g2⟩ := HK7.out.2.2.2 2 (by omega)
            obtain ⟨y3, g3⟩ := HK7.out.2.2.2 3 (by omega)
            simp [kz] at y0 y1 y2 y3
            by_cases hm0 : m = 0
            · have HA : Hid (actA L = #[.int .i64 0, .int .i64 0, .int .i64 0, .int .i64 0] ∧ okA L = false) := actA_no (by simp only [okA]; rw [HKN.out, if_neg (fun h => h.1 hm0)]; rfl)
              subst hm0
              go_wp2_with fail
              refine bodyPost_ret (v := .tuple #[.agg #[.int .i64 0, .int .i64 0, .int .i64 0, .int .i64 0], .bool false]) (by simp [results, Tryd.results16, go_sem, z0, z1, z2, z3]) rfl ?_
              refine ares_no HA.out ?_
              repeat (first | with_reducible exact HBx.out | with_reducible refine Below.setCell ?_ (by first | omega | (simp <;> omega)) _)
            · have hm1 : ((m : Int) == 0) = false := by simp; omega
              go_wp2_with fail
              refine (numbers_any _ m 0 0 0 (by omega) hm7).mono ?_
              rintro e w3 ⟨xa, xc, rfl, hB3⟩
              have HK3 : Hid (Akw w w3 m) := HK7.out.below hB3
              have HW3 : Hid (Awn w w3 pb po nb L) := HW.out.below hB3
              have HBy : Hid (Below w.heap.size w w3) := HK3.out.1
              have hfc := fc_le m hm7
              have hwf : IntKind.i64.wrap ((fc m : Int) + 1) = (fc m : Int) + 1 := by rw [IntKind.wrap_i64]; omega
              clear z0 z1 z2 z3 f0 f1 f2 f3 y0 y1 y2 y3 g0 g1 g2 g3 hB3 HW HK7 HBx
              obtain ⟨z0, f0⟩ := HK3.out.2.2.1 0 (by omega)
              obtain ⟨z1, f1⟩ := HK3.out.2.2.1 1 (by omega)
              obtain ⟨z2, f2⟩ := HK3.out.2.2.1 2 (by omega)
              obtain ⟨z3, f3⟩ := HK3.out.2.2.1 3 (by omega)
              obtain ⟨y0, g0⟩ := HK3.out.2.2.2 0 (by omega)
              obtain ⟨y1, g1⟩ := HK3.out.2.2.2 1 (by omega)
              obtain ⟨y2, g2⟩ := HK3.out.2.2.2 2 (by omega)
              obtain ⟨y3, g3⟩ := HK3.out.2.2.2 3 (by omega)
              simp [kz] at y0 y1 y2 y3
              by_cases hle : L.length = fc m + 1
              · have hle2 : ((L.length : Int) != (fc m : Int) + 1) = false := by simp; omega
                have HKM : Hid (kindP L = m) := by show kindP L = m; rw [HKN.out, if_pos ⟨hm0, hle⟩]
                have HLE : Hid (L.length = fc m + 1) := hle
                clear hle HKN
                obtain ⟨W3, hW3⟩ : ∃ W3, W3 = w3.alloc (.cells #[.int .i64 0, .int .i64 0, .int .i64 0] 2) := ⟨_, rfl⟩
                have HK4 : Hid (Akw w W3 m) := by rw [hW3]; exact HK3.out.below (below_new _ _)
                have HW4 : Hid (Awn w W3 pb po nb L) := by rw [hW3]; exact HW3.out.below (below_new _ _)
                have HN4 : Hid (Anw W3 w3.heap.size L 0) := fun j hj => by
                  rw [hW3]
                  match j, hj with
                  | 0, _ => simp [nkM]
                  | 1, _ => simp [nkM]
                  | 2, _ => simp [nkM]
                have hNB := HK3.out.2.1
                go_upto_region 17 with fail
                rw [← hW3]
                have hpB : pb < w3.heap.size := Go.block_lt_of_cell (HW3.out.2.2.1 0 (by omega))
                have hnB : nb < w3.heap.size := Go.block_lt_of_cell (HW3.out.2.2.2 0 (by omega))
                clear hW3 HK3 HW3 HBy z0 z1 z2 z3 f0 f1 f2 f3 y0 y1 y2 y3 g0 g1 g2 g3
                go_wp2_with fail
                go_loopw [10, 11, 12] (fun i _ _ wr => ∃ q : Nat, q + 1 ≤ L.length ∧ i = .int .i64 ((q : Int) + 1) ∧ Hid (Akw w wr m) ∧ Hid (Awn w wr pb po nb L) ∧ Hid (Anw wr w3.heap.size L q) ∧ Hid (nums L q = true)) (fun i _ _ _ => L.length + 1 - (intOf i).toNat)
                case atStart => exact ⟨0, by omega, rfl, HK4, HW4, HN4, rfl⟩
                case round =>
                  clear HK4 HW4 HN4
                  obtain ⟨q, hq1, rfl, HK, HW, HN, HU⟩ := hrel
                  have h0 : (0 : Int) ≤ (q : Int) := by omega
                  by_cases hlt : q + 1 < L.length
                  · have hlt' : (q : Int) + 1 < (L.length : Int) := by omega
                    have hq3 : (q : Int) < 3 := by have := HLE.out; omega
                    have hq3n : q < 3 := by omega
                    have hw := HW.out.2.2.1 (q + 1) hlt
                    go_wp2_with fail
                    refine (l15Number_any _ _ (HNE.out (q + 1) hlt)).mono ?_
                    rintro e w4 ⟨rfl, hq⟩
                    have hq2 := hq.symm
                    clear hq
                    subst hq2
                    cases hnb : numB (sg L (q + 1)) with
                    | true =>
                      have HU2 : Hid (nums L (q + 1) = true) := by show (nums L q && numB (sg L (q + 1))) = true; rw [HU.out, hnb]; rfl
                      have HN2 : Hid (Anw (wr.setCell ⟨w3.heap.size, q, none⟩ (.int .i64 (numV (sg L (q + 1))))) w3.heap.size L (q + 1)) := HN.out.put hq3n
                      have HK2 : Hid (Akw w (wr.setCell ⟨w3.heap.size, q, none⟩ (.int .i64 (numV (sg L (q + 1))))) m) := HK.out.far _ _ hNB
                      have HW2 : Hid (Awn w (wr.setCell ⟨w3.heap.size, q, none⟩ (.int .i64 (numV (sg L (q + 1))))) pb po nb L) := HW.out.far _ _ (by omega) (by omega)
                      obtain ⟨a0, a1⟩ := HN.out q hq3n
                      go_wp2_with fail
                      go_roundw
                      case rel => exact ⟨q + 1, by omega, by go_num, HK2, HW2, HN2, HU2⟩
                      case measure => simp [intOf]; omega
                    | false =>
                      have HA : Hid (actA L = #[.int .i64 0, .int .i64 0, .int .i64 0, .int .i64 0] ∧ okA L = false) := actA_no (by simp only [okA]; rw [nums_not (j := q + 1) (by omega) (by omega) hnb, Bool.and_false])
                      have HB3 : Hid (Below w.heap.size w wr) := HK.out.1
                      obtain ⟨z0, f0⟩ := HK.out.2.2.1 0 (by omega)
                      obtain ⟨z1, f1⟩ := HK.out.2.2.1 1 (by omega)
                      obtain ⟨z2, f2⟩ := HK.out.2.2.1 2 (by omega)
                      obtain ⟨z3, f3⟩ := HK.out.2.2.1 3 (by omega)
                      go_wp2_with fail
                      (try simp only [Exit.inBlock, Exit.then])
                      refine bodyPost_ret (v := .tuple #[.agg #[.int .i64 0, .int .i64 0, .int .i64 0, .int .i64 0], .bool false]) (by simp [results, Tryd.results16, go_sem, z0, z1, z2, z3]) rfl ?_
                      refine ares_no HA.out ?_
                      repeat (first | with_reducible exact HB3.out | with_reducible refine Below.setCell ?_ (by first | omega | (simp <;> omega)) _)
                  · have hge : ¬ (q : Int) + 1 < (L.length : Int) := by omega
                    have HA : Hid (actA L = #[.int .i64 m, .int .i64 (nkM L q 0), .int .i64 (nkM L q 1), .int .i64 (nkM L q 2)] ∧ okA L = true) := by
                      have hok : okA L = true := by
                        have e : L.length - 1 = q := by omega
                        simp only [okA, e, HU.out, Bool.and_true, HKM.out]
                        exact decide_eq_true hm0
                      obtain ⟨h1, h2⟩ := actA_yes hok
                      refine ⟨?_, h2⟩
                      rw [h1, HKM.out]
                      have e : ∀ j, nA L (j + 1) = nkM L q j := fun j => by
                        have : (j + 1 < L.length) ↔ (j < q) := by omega
                        simp only [nA, nkM, this]
                      rw [e 0, e 1, e 2]
                    obtain ⟨a0, b0⟩ := HN.out 0 (by omega)
                    obtain ⟨a1, b1⟩ := HN.out 1 (by omega)
                    obtain ⟨a2, b2⟩ := HN.out 2 (by omega)
                    have hne1 : ¬ w3.heap.size = w.heap.size + 1 := by omega
                    have hne2 : ¬ w.heap.size + 1 = w3.heap.size := by omega
                    have HB3 : Hid (Below w.heap.size w wr) := HK.out.1
                    obtain ⟨z0, f0⟩ := HK.out.2.2.1 0 (by omega)
                    obtain ⟨z1, f1⟩ := HK.out.2.2.1 1 (by omega)
                    obtain ⟨z2, f2⟩ := HK.out.2.2.1 2 (by omega)
                    obtain ⟨z3, f3⟩ := HK.out.2.2.1 3 (by omega)
                    obtain ⟨y0, g0⟩ := HK.out.2.2.2 0 (by omega)
                    obtain ⟨y1, g1⟩ := HK.out.2.2.2 1 (by omega)
                    obtain ⟨y2, g2⟩ := HK.out.2.2.2 2 (by omega)
                    obtain ⟨y3, g3⟩ := HK.out.2.2.2 3 (by omega)
                    simp [kz] at y0 y1 y2 y3
                    generalize nkM L q 0 = n0 at *
                    generalize nkM L q 1 = n1 at *
                    generalize nkM L q 2 = n2 at *
                    go_wp2_with fail
                    refine bodyPost_ret (v := .tuple #[.agg #[.int .i64 m, .int .i64 n0, .int .i64 n1, .int .i64 n2], .bool true]) (by simp [results, Tryd.results16, go_sem, z0, z1, z2, z3]) rfl ?_
                    refine ⟨by rw [HA.out.1, HA.out.2], ?_⟩
                    repeat (first | with_reducible exact HB3.out | with_reducible refine Below.setCell ?_ (by first | omega | (simp <;> omega)) _)
              · have hle2 : ((L.length : Int) != (fc m : Int) + 1) = true := by simp; omega
                have HA : Hid (actA L = #[.int .i64 0, .int .i64 0, .int .i64 0, .int .i64 0] ∧ okA L = false) := actA_no (by simp only [okA]; rw [HKN.out, if_neg (fun h => hle h.2)]; rfl)
                clear hle
                go_wp2_with fail
                refine bodyPost_ret (v := .tuple #[.agg #[.int .i64 0, .int .i64 0, .int .i64 0, .int .i64 0], .bool false]) (by simp [results, Tryd.results16, go_sem, z0, z1, z2, z3]) rfl ?_
                refine ares_no HA.out ?_
                repeat (first | with_reducible exact HBy.out | with_reducible refine Below.setCell ?_ (by first | omega | (simp <;> omega)) _)
end Go.Proofs.YtiflheclfgloaaaDoor
