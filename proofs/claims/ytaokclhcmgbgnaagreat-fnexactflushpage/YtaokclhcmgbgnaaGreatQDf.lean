/- Marks with greater bounds. -/
import Derived.Test.YtaokclhcmgbgnaaGreatQCq
import Derived.Test.YtaokclhcmgbgnaaGreatQBase
import Derived.Test.YtaokclhcmgbgnaaGreatQLh
import Derived.Test.YtaokclhcmgbgnaaGreatQZsa
namespace Go.Proofs.YtaokclhcmgbgnaaGreat
open Go.RowKit Go.Deep
set_option linter.unusedVariables false
set_option maxRecDepth 20000
open Go.ChangeShapes Go.WideShapes Go.ChangeAt Go.RowKit Go.Deep Go.Joins

/-- Pages from the k-th on: whether one has not 48 bytes. -/
def pgf (L : Nat → Nat) : Nat → Nat → Int
  | 0, _ => 0
  | f + 1, k => if L k = 48 then pgf L f (k + 1) else 1
/-- The fault of the loose writes from the k-th on. -/
def lsf (n : Nat) (P T : Nat → Int) (M : Nat → Nat) : Nat → Nat → Int
  | 0, _ => 0
  | f + 1, k => if inB (P k) 0 ((n : Int) - 1) = false ∨ inB (T k) 0 2 = false then 3 else if M k = 16 then lsf n P T M f (k + 1) else 1
theorem pgf_at {L : Nat → Nat} {n k : Nat} (h : k < n) : pgf L (n - k) k = if L k = 48 then pgf L (n - (k + 1)) (k + 1) else 1 := by
  obtain ⟨f, hf⟩ : ∃ f, n - k = f + 1 := ⟨n - k - 1, by omega⟩
  rw [hf, pgf, show n - (k + 1) = f by omega]
theorem lsf_at {n : Nat} {P T : Nat → Int} {M : Nat → Nat} {m k : Nat} (h : k < m) : lsf n P T M (m - k) k = if inB (P k) 0 ((n : Int) - 1) = false ∨ inB (T k) 0 2 = false then 3 else if M k = 16 then lsf n P T M (m - (k + 1)) (k + 1) else 1 := by
  obtain ⟨f, hf⟩ : ∃ f, m - k = f + 1 := ⟨m - k - 1, by omega⟩
  rw [hf, lsf, show m - (k + 1) = f by omega]
/-- The fault of a disk. -/
def df (D : Dk) : Int :=
  if inB D.n 1 8 = false then 1 else if pgf D.L D.n 0 = 1 then 1 else if 60 < D.m then 2 else lsf D.n D.P D.T D.M D.m 0
theorem pgf_01 (L : Nat → Nat) : ∀ f k, pgf L f k = 0 ∨ pgf L f k = 1
  | 0, _ => .inl rfl
  | f + 1, k => by
    rw [pgf]
    by_cases h : L k = 48
    · rw [if_pos h]; exact pgf_01 L f (k + 1)
    · rw [if_neg h]; exact .inr rfl
theorem isPlace_any (v : Int) (c : Nat) (w : World) (hc : c ≤ 1048576) : Calls Tryz.prog 39 #[.int .i64 v, .int .i64 c] w fun e w' => e = .returned (.bool (inB v 0 ((c : Int) - 1))) ∧ w' = w := by
  by_cases h : 0 ≤ v
  · by_cases h2 : v < c
    · go_enter Tryz.func39, Tryz.ntmps39
      go_wp2
      go_ret
      exact ⟨ret_bool (by simp [inB]; omega), rfl⟩
    · have h3 : decide (v < (c : Int)) = false := by simp; omega
      clear h2
      go_enter Tryz.func39, Tryz.ntmps39
      go_wp2
      go_ret
      exact ⟨ret_bool (by simp [inB] at *; omega), rfl⟩
  · have h3 : decide (0 ≤ v) = false := by simp; omega
    clear h
    go_enter Tryz.func39, Tryz.ntmps39
    go_wp2
    go_ret
    exact ⟨ret_bool (by simp [inB] at *; omega), rfl⟩
theorem isPlace3 (v : Int) (w : World) : Calls Tryz.prog 39 #[.int .i64 v, .int .i64 3] w fun e w' => e = .returned (.bool (inB v 0 2)) ∧ w' = w := by
  refine (isPlace_any v 3 w (by omega)).mono ?_
  rintro e w' ⟨rfl, rfl⟩
  exact ⟨rfl, rfl⟩
set_option maxHeartbeats 1000000 in
theorem looseFault_any (n m : Nat) (P T : Nat → Int) (M : Nat → Nat) (Y : Nat → Nat → Int) (a a' : Option Addr) (cap cap' : Nat) (w : World) (hn : n ≤ 1048576) (hm : m ≤ 1048576) (h : LoosesAt w a' m P T M Y) :
    Calls Tryz.prog 189 #[.agg #[.slice a n cap, .slice a' m cap']] w fun e w' => e = .returned (.int .i64 (lsf n P T M m 0)) ∧ Below w.heap.size w w' := by
  have HA0 : Hid (LoosesAt w a' m P T M Y) := h
  clear h
  go_enter Tryz.func189, Tryz.ntmps189
  go_wp2
  go_loopw [4, 8] (fun _ i wr => ∃ k : Nat, k ≤ m ∧ i = .int .i64 k ∧ Hid (lsf n P T M m 0 = lsf n P T M (m - k) k) ∧ Below w.heap.size w wr ∧ Box2 wr w.heap.size (.slice a n cap) (.slice a' m cap')) (fun _ i _ => m - (intOf i).toNat)
  case atStart => exact ⟨0, Nat.zero_le _, rfl, rfl, below_new _ _, Box2.new _ _ _ _⟩
  case round =>
    obtain ⟨k, hk0, rfl, HC, hb, hbx⟩ := hrel
    by_cases hlt : k < m
    · rcases HA0.out.below hb with h | ⟨b, off, rfl, hl, hc⟩
      · omega
      obtain ⟨h0, h1, ai, ci, h2, -⟩ := hc k hlt
      have HBX : Hid (Box2 wr w.heap.size (.slice a n cap) (.slice (some ⟨b, off, none⟩) m cap')) := hbx
      have q0 := fun o : Obj => cell_alloc hbx.1 o
      have hlt' : (k : Int) < (m : Int) := by omega
      have HB : Hid (Below w.heap.size w wr) := hb
      have HA : Hid (lsf n P T M m 0 = _) := HC.out.trans (lsf_at hlt)
      clear HC hc hbx hb
      by_cases hc1 : inB (P k) 0 ((n : Int) - 1) = true
      · by_cases hc2 : inB (T k) 0 2 = true
        · by_cases hc3 : M k = 16
          · have HC : Hid (lsf n P T M m 0 = lsf n P T M (m - (k + 1)) (k + 1)) := by
              refine HA.out.trans ?_
              rw [if_neg (by simp [hc1, hc2]), if_pos hc3]
            clear HA
            go_wp2_with fail
            refine (isPlace_any (P k) n _ hn).mono ?_
            rintro e w' ⟨rfl, rfl⟩
            go_wp2_with fail
            refine (isPlace3 (T k) _).mono ?_
            rintro e w' ⟨rfl, rfl⟩
            go_wp2_with fail
            go_roundw
            case rel => exact ⟨k + 1, hlt, by go_num, HC, by have hs := HB.out.size; repeat (first | exact HB.out | apply Below.drew | refine below_drewN ?_ _ | refine Below.alloc ?_ (by first | omega | (simp; omega)) _), HBX.out.alloc _⟩
            case measure => simp [intOf]; omega
          · have HC : Hid (lsf n P T M m 0 = 1) := by
              refine HA.out.trans ?_
              rw [if_neg (by simp [hc1, hc2]), if_neg hc3]
            clear HA
            go_wp2_with fail
            refine (isPlace_any (P k) n _ hn).mono ?_
            rintro e w' ⟨rfl, rfl⟩
            go_wp2_with fail
            refine (isPlace3 (T k) _).mono ?_
            rintro e w' ⟨rfl, rfl⟩
            go_wp2_with fail
            go_ret
            exact ⟨ret_int HC.out.symm, by have hs := HB.out.size; repeat (first | exact HB.out | apply Below.drew | refine below_drewN ?_ _ | refine Below.alloc ?_ (by first | omega | (simp; omega)) _)⟩
        · have hc4 : inB (T k) 0 2 = false := by simpa using hc2
          have HC : Hid (lsf n P T M m 0 = 3) := by
            refine HA.out.trans ?_
            rw [if_pos (.inr hc4)]
          clear HA hc2
          go_wp2_with fail
          refine (isPlace_any (P k) n _ hn).mono ?_
          rintro e w' ⟨rfl, rfl⟩
          go_wp2_with fail
          refine (isPlace3 (T k) _).mono ?_
          rintro e w' ⟨rfl, rfl⟩
          go_wp2_with fail
          go_ret
          exact ⟨ret_int HC.out.symm, by have hs := HB.out.size; repeat (first | exact HB.out | apply Below.drew | refine below_drewN ?_ _ | refine Below.alloc ?_ (by first | omega | (simp; omega)) _)⟩
      · have hc4 : inB (P k) 0 ((n : Int) - 1) = false := by simpa using hc1
        have HC : Hid (lsf n P T M m 0 = 3) := by
          refine HA.out.trans ?_
          rw [if_pos (.inl hc4)]
        clear HA hc1
        go_wp2_with fail
        refine (isPlace_any (P k) n _ hn).mono ?_
        rintro e w' ⟨rfl, rfl⟩
        go_wp2_with fail
        go_ret
        exact ⟨ret_int HC.out.symm, by have hs := HB.out.size; repeat (first | exact HB.out | apply Below.drew | refine below_drewN ?_ _ | refine Below.alloc ?_ (by first | omega | (simp; omega)) _)⟩
    · have HC2 : Hid (lsf n P T M m 0 = 0) := by
        refine HC.out.trans ?_
        rw [show m - k = 0 by omega, lsf]
      clear HC hbx
      go_wp2
      go_ret
      exact ⟨ret_int HC2.out.symm, hb⟩
set_option maxHeartbeats 1000000 in
theorem implDf_any (D : Dk) (a a' : Option Addr) (cap cap' : Nat) (w : World) (hs : Small D) (h : DiskAt w a a' D) :
    Calls Tryz.prog 152 #[.agg #[.slice a D.n cap, .slice a' D.m cap']] w fun e w' => e = .returned (.int .i64 (df D)) ∧ Below w.heap.size w w' := by
  have hn := hs.n
  have hm := hs.m
  generalize hdf : df D = c
  unfold df at hdf
  obtain ⟨n, L, Z, m, P, T, M, Y⟩ := D
  obtain ⟨h1, h2⟩ := h
  dsimp only at *
  have HA : Hid (PagesAt w a n L Z) := h1
  have HA' : Hid (LoosesAt w a' m P T M Y) := h2
  have HDF : Hid ((if inB n 1 8 = false then 1 else if pgf L n 0 = 1 then 1 else if 60 < m then 2 else lsf n P T M m 0) = c) := hdf
  clear h1 h2 hs hdf
  by_cases hr : inB (n : Int) 1 8 = true
  · have HD1 : Hid ((if pgf L n 0 = 1 then 1 else if 60 < m then 2 else lsf n P T M m 0) = c) := by have h := HDF.out; rw [if_neg (by simp [hr])] at h; exact h
    clear HDF
    go_enter Tryz.func152, Tryz.ntmps152
    go_wp2_with fail
    refine (within_any (n : Int) 1 8 _).mono ?_
    rintro e w' ⟨rfl, rfl⟩
    go_wp2_with fail
    go_loop [4, 13] (fun _ i => ∃ k : Nat, k ≤ n ∧ i = .int .i64 k ∧ Hid (pgf L n 0 = pgf L (n - k) k)) (fun _ i => n - (intOf i).toNat)
    case atStart => exact ⟨0, Nat.zero_le _, rfl, rfl⟩
    case round =>
      obtain ⟨k, hk, rfl, HC⟩ := hrel
      by_cases hlt : k < n
      · rcases HA.out.below (below_new w (.cells #[.slice a n cap, .slice a' m cap'] 38)) with h | ⟨b, off, rfl, hl, hc⟩
        · omega
        obtain ⟨ai, ci, h1, -⟩ := hc k hlt
        have HD : Hid (pgf L n 0 = _) := HC.out.trans (pgf_at hlt)
        clear HC hc
        by_cases hc1 : L k = 48
        · have HC : Hid (pgf L n 0 = pgf L (n - (k + 1)) (k + 1)) := HD.out.trans (if_pos hc1)
          clear HD
          go_wp2
          go_round
          case rel => exact ⟨k + 1, hlt, by go_num, HC⟩
          case measure => simp [intOf]; omega
        · have HC : Hid (pgf L n 0 = 1) := HD.out.trans (if_neg hc1)
          clear HD
          go_wp2
          go_ret
          exact ⟨ret_int (by rw [← HD1.out, if_pos HC.out]), below_new _ _⟩
      · have HC0 : Hid (pgf L n 0 = 0) := by
          refine HC.out.trans ?_
          rw [show n - k = 0 by omega, pgf]
        clear HC
        by_cases hc2 : 60 < m
        · go_wp2
          go_ret
          exact ⟨ret_int (by rw [← HD1.out, if_neg (by rw [HC0.out]; omega), if_pos hc2]), below_new _ _⟩
        · go_wp2_with fail
          refine (looseFault_any n m P T M Y a a' cap cap' _ hn hm (HA'.out.below (below_new _ _))).mono ?_
          rintro e w1 ⟨rfl, hb1⟩
          go_wp2_with fail
          go_ret
          exact ⟨ret_int (by rw [← HD1.out, if_neg (by rw [HC0.out]; omega), if_neg (by omega)]), below_then (below_new _ _) hb1⟩
  · have hr' : inB (n : Int) 1 8 = false := by simpa using hr
    have HD1 : Hid (1 = c) := by have h := HDF.out; rw [if_pos hr'] at h; exact h
    clear HDF
    clear hr
    go_enter Tryz.func152, Tryz.ntmps152
    go_wp2_with fail
    refine (within_any (n : Int) 1 8 _).mono ?_
    rintro e w' ⟨rfl, rfl⟩
    go_wp2_with fail
    go_ret
    exact ⟨ret_int HD1.out, below_new _ _⟩
/-- The fault of a store. -/
def stF (t : Sto) : Int :=
  if inB t.nx 1 999 = true then (if t.pn = 4 then (if psF t.pT t.pn 0 = 0 then (if df t.d = 0 then (if t.d.n = 4 then (if lgC t.g = 0 then (if onF t.nx t.oF t.on 0 = 0 then hdF (ivL t.oF t.on) t.hK t.hV t.hn 0 else onF t.nx t.oF t.on 0) else lgC t.g) else 1) else df t.d) else psF t.pT t.pn 0) else 1) else 3
/-- A store's box. -/
def BoxS (w : World) (B : Nat) (c0 c1 c2 c3 c4 c5 c6 c7 : Value) : Prop := w.cell? ⟨B, 0, none⟩ = some c0 ∧ w.cell? ⟨B, 1, none⟩ = some c1 ∧ w.cell? ⟨B, 2, none⟩ = some c2 ∧ w.cell? ⟨B, 3, none⟩ = some c3 ∧ w.cell? ⟨B, 4, none⟩ = some c4 ∧ w.cell? ⟨B, 5, none⟩ = some c5 ∧ w.cell? ⟨B, 6, none⟩ = some c6 ∧ w.cell? ⟨B, 7, none⟩ = some c7
theorem BoxS.alloc {w : World} {B : Nat} {c0 c1 c2 c3 c4 c5 c6 c7 : Value} (h : BoxS w B c0 c1 c2 c3 c4 c5 c6 c7) (x : Obj) : BoxS (w.alloc x) B c0 c1 c2 c3 c4 c5 c6 c7 :=
  ⟨cell_alloc h.1 x, cell_alloc h.2.1 x, cell_alloc h.2.2.1 x, cell_alloc h.2.2.2.1 x, cell_alloc h.2.2.2.2.1 x, cell_alloc h.2.2.2.2.2.1 x, cell_alloc h.2.2.2.2.2.2.1 x, cell_alloc h.2.2.2.2.2.2.2 x⟩
theorem BoxS.below {w w' : World} {B : Nat} {c0 c1 c2 c3 c4 c5 c6 c7 : Value} (h : BoxS w B c0 c1 c2 c3 c4 c5 c6 c7) (x : Below w.heap.size w w') : BoxS w' B c0 c1 c2 c3 c4 c5 c6 c7 :=
  ⟨cell_below h.1 x, cell_below h.2.1 x, cell_below h.2.2.1 x, cell_below h.2.2.2.1 x, cell_below h.2.2.2.2.1 x, cell_below h.2.2.2.2.2.1 x, cell_below h.2.2.2.2.2.2.1 x, cell_below h.2.2.2.2.2.2.2 x⟩
theorem BoxS.writes {w w' : World} {lo hi B : Nat} {c0 c1 c2 c3 c4 c5 c6 c7 : Value} (h : BoxS w B c0 c1 c2 c3 c4 c5 c6 c7) (x : Writes lo hi w w') (d : B < lo ∨ hi ≤ B) : BoxS w' B c0 c1 c2 c3 c4 c5 c6 c7 :=
  ⟨cell_writes h.1 x d, cell_writes h.2.1 x d, cell_writes h.2.2.1 x d, cell_writes h.2.2.2.1 x d, cell_writes h.2.2.2.2.1 x d, cell_writes h.2.2.2.2.2.1 x d, cell_writes h.2.2.2.2.2.2.1 x d, cell_writes h.2.2.2.2.2.2.2 x d⟩
theorem BoxS.new (w : World) (c0 c1 c2 c3 c4 c5 c6 c7 : Value) (t : TypeId) : BoxS (w.alloc (.cells #[c0, c1, c2, c3, c4, c5, c6, c7] t)) w.heap.size c0 c1 c2 c3 c4 c5 c6 c7 := by simp [BoxS]
theorem BoxS.lt {w : World} {B : Nat} {c0 c1 c2 c3 c4 c5 c6 c7 : Value} (h : BoxS w B c0 c1 c2 c3 c4 c5 c6 c7) : B < w.heap.size := Go.block_lt_of_cell h.1
set_option maxHeartbeats 8000000 in
theorem implStf_any (t : Sto) (a0 : Option Addr) (c0 : Nat) (a1 : Option Addr) (c1 : Nat) (a2 : Option Addr) (c2 : Nat) (a3 : Option Addr) (c3 : Nat) (a4 : Option Addr) (c4 : Nat) (a5 : Option Addr) (c5 : Nat) (a6 : Option Addr) (c6 : Nat) (w : World) (hS : SmSt t) (hby : LogByt t.g) (h : InSt w a0 a1 a2 a3 a4 a5 a6 t) :
    Calls Tryz.prog 96 #[.agg #[.int .i64 t.nx, .slice a0 t.pn c0, .slice a1 t.d.n c1, .slice a2 t.d.m c2, .slice a3 t.g.n1 c3, .slice a4 t.g.n2 c4, .slice a5 t.hn c5, .slice a6 t.on c6]] w fun e w' => e = .returned (.int .i64 (stF t)) ∧ Below w.heap.size w w' := by
  have HA : Hid (InSt w a0 a1 a2 a3 a4 a5 a6 t) := h
  obtain ⟨⟨hS0, hS1, hS2⟩, hSd, ⟨hSg, hSg'⟩, hSh, hSo⟩ := hS
  have HSP : Hid (∀ i, i < t.pn → SmPg (t.pT i)) := hS1
  have HE : Hid (stF t = if inB t.nx 1 999 = true then (if t.pn = 4 then (if psF t.pT t.pn 0 = 0 then (if df t.d = 0 then (if t.d.n = 4 then (if lgC t.g = 0 then (if onF t.nx t.oF t.on 0 = 0 then hdF (ivL t.oF t.on) t.hK t.hV t.hn 0 else onF t.nx t.oF t.on 0) else lgC t.g) else 1) else df t.d) else psF t.pT t.pn 0) else 1) else 3) := rfl
  generalize stF t = C at *
  have hb0 := fun o => below_new w o
  clear h hS1 hS2
  go_enter Tryz.func96, Tryz.ntmps96
  obtain k1 | k1 := boolor (inB t.nx 1 999)
  case inr =>
    replace HE : Hid (C = 3) := HE.out.trans (if_neg (by simp [k1]))
    go_wp2_with (first | (go_at_call 125; refine (isTxn_any _ _).mono ?_; rintro e w' ⟨rfl, rfl⟩; rw [k1]))
    go_ret
    exact ⟨ret_int HE.out.symm, below_new _ _⟩
  replace HE : Hid (C = _) := HE.out.trans (if_pos k1)
  by_cases k2 : t.pn = 4
  case neg =>
    replace HE : Hid (C = 1) := HE.out.trans (if_neg k2)
    have k3 : ((t.pn : Int) != 4) = true := by simp; omega
    clear k2
    go_wp2_with (first | (go_at_call 125; refine (isTxn_any _ _).mono ?_; rintro e w' ⟨rfl, rfl⟩; rw [k1]))
    go_ret
    exact ⟨ret_int HE.out.symm, below_new _ _⟩
  replace HE : Hid (C = _) := HE.out.trans (if_pos k2)
  have k3 : ((t.pn : Int) != 4) = false := by simp; omega
  have HP4 : Hid (t.pn = 4) := k2
  clear k2
  go_wp2_with (first | (go_at_call 125; refine (isTxn_any _ _).mono ?_; rintro e w' ⟨rfl, rfl⟩; rw [k1]))
  have hbx := BoxS.new w (.int .i64 t.nx) (.slice a0 t.pn c0) (.slice a1 t.d.n c1) (.slice a2 t.d.m c2) (.slice a3 t.g.n1 c3) (.slice a4 t.g.n2 c4) (.slice a5 t.hn c5) (.slice a6 t.on c6) 42
  go_loopw [3, 4, 5, 20] (fun _ _ _ i wr => ∃ k : Nat, k ≤ t.pn ∧ i = .int .i64 k ∧ Hid (psF t.pT t.pn 0 = psF t.pT (t.pn - k) k) ∧ Hid (Below w.heap.size w wr) ∧ Hid (BoxS wr w.heap.size (.int .i64 t.nx) (.slice a0 t.pn c0) (.slice a1 t.d.n c1) (.slice a2 t.d.m c2) (.slice a3 t.g.n1 c3) (.slice a4 t.g.n2 c4) (.slice a5 t.hn c5) (.slice a6 t.on c6))) (fun _ _ _ i _ => t.pn - (intOf i).toNat)
  case atStart => exact ⟨0, Nat.zero_le _, rfl, rfl, below_new _ _, hbx⟩
  case round =>
    clear hbx
    obtain ⟨k, hk, rfl, HC, HB, HX⟩ := hrel
    by_cases hlt : k < t.pn
    · have hlt' : (k : Int) < (t.pn : Int) := by omega
      have hk0 : (0 : Int) ≤ (k : Int) := by omega
      rcases HA.out.1.below HB.out with h | ⟨b, off, rfl, hl, hc⟩
      · omega
      obtain ⟨pa, pc, ⟨q0, q1, q2⟩, ⟨hI, -⟩, -⟩ := hc k hlt
      have HI : Hid (CellsAt wr pa (t.pT k).cn (t.pT k).cK (t.pT k).cV) := hI
      have HSk : Hid ((t.pT k).cn ≤ 1048576) := (HSP.out k hlt).1
      have HD : Hid (psF t.pT t.pn 0 = _) := HC.out.trans (psF_at hlt)
      clear hc hI HC
      go_wp2_with fail
      refine (storePageFault_any (t.pT k) k pa pc _ HSk.out (HI.out.below (below_new _ _))).mono ?_
      rintro e w1 ⟨rfl, hb⟩
      replace HB : Hid (Below w.heap.size w w1) := below_then HB.out (below_then (below_new _ _) hb)
      replace HX : Hid (BoxS w1 w.heap.size (.int .i64 t.nx) (.slice (some ⟨b, off, none⟩) t.pn c0) (.slice a1 t.d.n c1) (.slice a2 t.d.m c2) (.slice a3 t.g.n1 c3) (.slice a4 t.g.n2 c4) (.slice a5 t.hn c5) (.slice a6 t.on c6)) := (HX.out.alloc _).below hb
      clear hb q0 q1 q2
      generalize pgF (t.pT k) k = c at *
      by_cases h0 : c = 0
      · subst h0
        replace HD : Hid (psF t.pT t.pn 0 = psF t.pT (t.pn - (k + 1)) (k + 1)) := HD.out.trans (if_pos rfl)
        go_wp2_with fail
        go_roundw
        case rel => exact ⟨k + 1, hlt, by go_num, HD, HB, HX⟩
        case measure => simp [intOf]; omega
      · replace HD : Hid (psF t.pT t.pn 0 = c) := HD.out.trans (if_neg h0)
        replace HE : Hid (C = c) := HE.out.trans ((if_neg (by rw [HD.out]; exact h0)).trans HD.out)
        have h0' : (c != 0) = true := by simp [h0]
        clear h0
        go_wp2_with fail
        go_ret
        exact ⟨ret_int HE.out.symm, HB.out⟩
    · have hnl : ¬ ((k : Int) < (t.pn : Int)) := by omega
      replace HE : Hid (C = _) := HE.out.trans (if_pos (HC.out.trans (psF_end hlt)))
      have HX2 := HX.out
      obtain ⟨x0, x1, x2, x3, x4, x5, x6, x7⟩ := HX2
      clear HC
      go_wp2_with fail
      refine (implDf_any t.d a1 a2 c1 c2 _ hSd (HA.out.2.1.below HB.out)).mono ?_
      rintro e w1 ⟨rfl, hb⟩
      replace HB : Hid (Below w.heap.size w w1) := below_then HB.out hb
      replace HX := HX.out.below hb
      clear hb x0 x1 x2 x3 x4 x5 x6 x7
      obtain ⟨x0, x1, x2, x3, x4, x5, x6, x7⟩ := HX
      by_cases h0 : df t.d = 0
      case neg =>
        replace HE : Hid (C = df t.d) := HE.out.trans (if_neg h0)
        generalize df t.d = c at *
        have h0' : (c != 0) = true := by simp [h0]
        clear h0
        go_wp2_with fail
        go_ret
        exact ⟨ret_int HE.out.symm, HB.out⟩
      replace HE : Hid (C = _) := HE.out.trans (if_pos h0)
      rw [h0]
      clear h0
      by_cases h1 : t.d.n = 4
      case neg =>
        replace HE : Hid (C = 1) := HE.out.trans (if_neg h1)
        have h0' : ((t.d.n : Int) != 4) = true := by simp; omega
        clear h1
        go_wp2_with fail
        go_ret
        exact ⟨ret_int HE.out.symm, HB.out⟩
      replace HE : Hid (C = _) := HE.out.trans (if_pos h1)
      have h0' : ((t.d.n : Int) != 4) = false := by simp; omega
      clear h1
      go_wp2_with fail
      refine (implLf_any t.g a3 a4 c3 c4 _ hSg hSg' hby (HA.out.2.2.1.below HB.out)).mono ?_
      rintro e w2 ⟨rfl, hb⟩
      replace HB : Hid (Below w.heap.size w w2) := below_then HB.out hb
      replace x0 := cell_below x0 hb
      replace x1 := cell_below x1 hb
      replace x2 := cell_below x2 hb
      replace x3 := cell_below x3 hb
      replace x4 := cell_below x4 hb
      replace x5 := cell_below x5 hb
      replace x6 := cell_below x6 hb
      replace x7 := cell_below x7 hb
      clear hb
      by_cases h2 : lgC t.g = 0
      case neg =>
        replace HE : Hid (C = lgC t.g) := HE.out.trans (if_neg h2)
        generalize lgC t.g = c at *
        have h0' : (c != 0) = true := by simp [h2]
        clear h2
        go_wp2_with fail
        go_ret
        exact ⟨ret_int HE.out.symm, HB.out⟩
      replace HE : Hid (C = _) := HE.out.trans (if_pos h2)
      rw [h2]
      clear h2
      go_wp2_with fail
      refine (openFault_any t.nx (.slice a0 t.pn c0) (.slice a1 t.d.n c1) (.slice a2 t.d.m c2) (.slice a3 t.g.n1 c3) (.slice a4 t.g.n2 c4) (.slice a5 t.hn c5) t.on t.oF a6 c6 _ (inB_iff.1 k1) hSo (HA.out.2.2.2.2.below HB.out)).mono ?_
      rintro e w3 ⟨rfl, hb⟩
      replace HB : Hid (Below w.heap.size w w3) := below_then HB.out hb
      replace x0 := cell_below x0 hb
      replace x1 := cell_below x1 hb
      replace x2 := cell_below x2 hb
      replace x3 := cell_below x3 hb
      replace x4 := cell_below x4 hb
      replace x5 := cell_below x5 hb
      replace x6 := cell_below x6 hb
      replace x7 := cell_below x7 hb
      clear hb
      by_cases h3 : onF t.nx t.oF t.on 0 = 0
      case neg =>
        replace HE : Hid (C = onF t.nx t.oF t.on 0) := HE.out.trans (if_neg h3)
        generalize onF t.nx t.oF t.on 0 = c at *
        have h0' : (c != 0) = true := by simp [h3]
        clear h3
        go_wp2_with fail
        go_ret
        exact ⟨ret_int HE.out.symm, HB.out⟩
      replace HE : Hid (C = _) := HE.out.trans (if_pos h3)
      have HF : Hid (t.on ≤ 998) := onF_few (inB_iff.1 k1).2 h3
      rw [h3]
      clear h3
      go_wp2_with fail
      refine (heldFault_any (.int .i64 t.nx) (.slice a0 t.pn c0) (.slice a1 t.d.n c1) (.slice a2 t.d.m c2) (.slice a3 t.g.n1 c3) (.slice a4 t.g.n2 c4) t.hn t.hK t.hV a5 c5 t.on t.oF a6 c6 _ hSh (by have := HF.out; omega) (HA.out.2.2.2.1.below HB.out) (HA.out.2.2.2.2.below HB.out)).mono ?_
      rintro e w4 ⟨rfl, hb⟩
      go_wp2_with fail
      go_ret
      exact ⟨ret_int HE.out.symm, below_then HB.out hb⟩
/-- A store whose lists lie in blocks of colours of their own, all from lo on below hi. -/
def OwnS (w : World) (lo hi : Nat) (a0 a1 a2 a3 a4 a5 a6 : Option Addr) (t : Sto) : Prop :=
  hi ≤ w.heap.size ∧ ∃ col : Nat → Nat, (∀ x, col x ≠ 0 → lo ≤ x ∧ x < hi) ∧ OwnPgP w (fun x => col x = 1) a0 t.pn t.pT ∧ (∃ l h, (∀ x, l ≤ x → x < h → col x = 2) ∧ OwnD w l h a1 a2 t.d) ∧ (∃ l h, (∀ x, l ≤ x → x < h → col x = 3) ∧ OwnG w l h a3 a4 t.g) ∧ (∃ l h, (∀ x, l ≤ x → x < h → col x = 4) ∧ Own w l h a5 t.hn t.hK t.hV) ∧ (∃ l h, (∀ x, l ≤ x → x < h → col x = 5) ∧ OwnI w l h a6 t.on t.oF)
theorem OwnS.at {w : World} {lo hi : Nat} {a0 a1 a2 a3 a4 a5 a6 : Option Addr} {t : Sto} (h : OwnS w lo hi a0 a1 a2 a3 a4 a5 a6 t) : InSt w a0 a1 a2 a3 a4 a5 a6 t := by
  obtain ⟨_, col, _, h1, ⟨_, _, _, h2⟩, ⟨_, _, _, h3⟩, ⟨_, _, _, h4⟩, ⟨_, _, _, h5⟩⟩ := h
  exact ⟨h1.at, h2.at, h3.at, h4.at, h5.at⟩
theorem OwnS.keep {w w' : World} {lo hi : Nat} {a0 a1 a2 a3 a4 a5 a6 : Option Addr} {t : Sto} (h : OwnS w lo hi a0 a1 a2 a3 a4 a5 a6 t) (hs : w.heap.size ≤ w'.heap.size) (hk : ∀ x, lo ≤ x → x < hi → x < w.heap.size → w'.heap[x]? = w.heap[x]?) : OwnS w' lo hi a0 a1 a2 a3 a4 a5 a6 t := by
  obtain ⟨h0, col, hc, h1, ⟨l2, u2, g2, h2⟩, ⟨l3, u3, g3, h3⟩, ⟨l4, u4, g4, h4⟩, ⟨l5, u5, g5, h5⟩⟩ := h
  have hq : ∀ x, col x ≠ 0 → x < w.heap.size → w'.heap[x]? = w.heap[x]? := fun x hx hl => hk x (hc x hx).1 (hc x hx).2 hl
  refine ⟨Nat.le_trans h0 hs, col, hc, h1.keep hs fun x hx hl => hq x (by rw [hx]; omega) hl, ⟨l2, u2, g2, h2.keep hs fun x x1 x2 x3 => hq x (by rw [g2 x x1 x2]; omega) x3⟩, ⟨l3, u3, g3, h3.keep hs fun x x1 x2 x3 => hq x (by rw [g3 x x1 x2]; omega) x3⟩, ⟨l4, u4, g4, h4.keep hs fun x x1 x2 x3 => hq x (by rw [g4 x x1 x2]; omega) x3⟩, ⟨l5, u5, g5, h5.keep hs fun x x1 x2 x3 => hq x (by rw [g5 x x1 x2]; omega) x3⟩⟩
theorem OwnS.writes {w w' : World} {lo hi lo' hi' : Nat} {a0 a1 a2 a3 a4 a5 a6 : Option Addr} {t : Sto} (h : OwnS w lo hi a0 a1 a2 a3 a4 a5 a6 t) (hw : Writes lo' hi' w w') (hd : hi ≤ lo' ∨ hi' ≤ lo) : OwnS w' lo hi a0 a1 a2 a3 a4 a5 a6 t :=
  h.keep hw.size fun x x1 x2 x3 => hw.block x x3 (by omega)
theorem OwnS.below {w w' : World} {lo hi : Nat} {a0 a1 a2 a3 a4 a5 a6 : Option Addr} {t : Sto} (h : OwnS w lo hi a0 a1 a2 a3 a4 a5 a6 t) (hb : Below w.heap.size w w') : OwnS w' lo hi a0 a1 a2 a3 a4 a5 a6 t :=
  h.keep hb.size fun x x1 x2 x3 => hb.block x x3
theorem OwnS.wide {w : World} {lo hi lo' hi' : Nat} {a0 a1 a2 a3 a4 a5 a6 : Option Addr} {t : Sto} (h : OwnS w lo hi a0 a1 a2 a3 a4 a5 a6 t) (e1 : lo' ≤ lo) (e2 : hi ≤ hi') (e3 : hi' ≤ w.heap.size) : OwnS w lo' hi' a0 a1 a2 a3 a4 a5 a6 t := by
  obtain ⟨h0, col, hc, r⟩ := h
  exact ⟨e3, col, fun x hx => by have := hc x hx; omega, r⟩
/-- A store that is not great. -/
def FewS (t : Sto) : Prop := SmSt t ∧ sPg t.pT t.pn + tot t.d + t.g.n1 + t.g.n2 ≤ 1000000
/-- A store with marks from m on. -/
def mS (m : Int) (t : Sto) : Sto := ⟨t.nx, t.pn, mPg m t.pT, mD (m + sPg t.pT t.pn) t.d, mG (m + sPg t.pT t.pn + tot t.d) t.g, t.hn, mK (m + sPg t.pT t.pn + tot t.d + (t.g.n1 + t.g.n2 : Nat)), mK (m + sPg t.pT t.pn + tot t.d + (t.g.n1 + t.g.n2 : Nat) + 1), t.on, ik (m + sPg t.pT t.pn + tot t.d + (t.g.n1 + t.g.n2 : Nat) + t.hn * 2)⟩
def totS (t : Sto) : Nat := sPg t.pT t.pn + tot t.d + (t.g.n1 + t.g.n2) + t.hn * 2 + t.on
set_option maxHeartbeats 4000000 in
theorem markStore_any (t : Sto) (a0 : Option Addr) (c0 : Nat) (a1 : Option Addr) (c1 : Nat) (a2 : Option Addr) (c2 : Nat) (a3 : Option Addr) (c3 : Nat) (a4 : Option Addr) (c4 : Nat) (a5 : Option Addr) (c5 : Nat) (a6 : Option Addr) (c6 : Nat) (lo hi : Nat) (w : World) (hs : FewS t) (h : OwnS w lo hi a0 a1 a2 a3 a4 a5 a6 t) :
    Calls Tryz.prog 12 #[.agg #[.int .i64 t.nx, .slice a0 t.pn c0, .slice a1 t.d.n c1, .slice a2 t.d.m c2, .slice a3 t.g.n1 c3, .slice a4 t.g.n2 c4, .slice a5 t.hn c5, .slice a6 t.on c6], .int .i64 1] w fun e w' => e = .returned (.int .i64 (1 + totS t)) ∧ Writes lo hi w w' ∧ OwnS w' lo hi a0 a1 a2 a3 a4 a5 a6 (mS 1 t) := by
  have HS : Hid (FewS t) := hs
  have hf := hs.2
  have hhn := hs.1.2.2.2.1
  have hon := hs.1.2.2.2.2
  obtain ⟨h0, col, hc, h1, ⟨l2, u2, g2, h2⟩, ⟨l3, u3, g3, h3⟩, ⟨l4, u4, g4, h4⟩, ⟨l5, u5, g5, h5⟩⟩ := h
  have HC : Hid (∀ x, col x ≠ 0 → lo ≤ x ∧ x < hi) := hc
  have HT : Hid ((totS t : Int) = sPg t.pT t.pn + tot t.d + (t.g.n1 + t.g.n2 : Nat) + t.hn * 2 + t.on) := by simp [totS, Hid]
  have H1 : Hid (OwnPgP w (fun x => col x = 1) a0 t.pn t.pT) := h1
  have H2 : Hid (OwnD w l2 u2 a1 a2 t.d) := h2
  have H3 : Hid (OwnG w l3 u3 a3 a4 t.g) := h3
  have H4 : Hid (Own w l4 u4 a5 t.hn t.hK t.hV) := h4
  have H5 : Hid (OwnI w l5 u5 a6 t.on t.oF) := h5
  have HG : Hid ((∀ x, l2 ≤ x → x < u2 → col x = 2) ∧ (∀ x, l3 ≤ x → x < u3 → col x = 3) ∧ (∀ x, l4 ≤ x → x < u4 → col x = 4) ∧ ∀ x, l5 ≤ x → x < u5 → col x = 5) := ⟨g2, g3, g4, g5⟩
  have HZ : Hid (∀ k, k ≠ 0 → col w.heap.size ≠ k) := fun k hk e => by have := hc w.heap.size (by omega); omega
  clear hs h1 h2 h3 h4 h5 g2 g3 g4 g5 hc
  go_enter Tryz.func12, Tryz.ntmps12
  go_wp2_with fail
  refine (markPageS_P t.pn t.pT a0 c0 (fun x => col x = 1) 1 _ HS.out.1.1.1 HS.out.1.1.2.2 (by omega) (by omega) (H1.out.keep (below_new _ _).size fun x _ hl => (below_new _ _).block x hl)).mono ?_
  rintro e w1 ⟨rfl, hw, ho⟩
  have q2 : w1.cell? ⟨w.heap.size, 2, none⟩ = some (.slice a1 t.d.n c1) := by
    rw [World.cell?_of_block (w := w.alloc _) (a := ⟨w.heap.size, 2, none⟩) (hw.block w.heap.size (by simp) (HZ.out 1 (by omega)))]; simp [go_sem]
  have q3 : w1.cell? ⟨w.heap.size, 3, none⟩ = some (.slice a2 t.d.m c2) := by
    rw [World.cell?_of_block (w := w.alloc _) (a := ⟨w.heap.size, 3, none⟩) (hw.block w.heap.size (by simp) (HZ.out 1 (by omega)))]; simp [go_sem]
  have q4 : w1.cell? ⟨w.heap.size, 4, none⟩ = some (.slice a3 t.g.n1 c3) := by
    rw [World.cell?_of_block (w := w.alloc _) (a := ⟨w.heap.size, 4, none⟩) (hw.block w.heap.size (by simp) (HZ.out 1 (by omega)))]; simp [go_sem]
  have q5 : w1.cell? ⟨w.heap.size, 5, none⟩ = some (.slice a4 t.g.n2 c4) := by
    rw [World.cell?_of_block (w := w.alloc _) (a := ⟨w.heap.size, 5, none⟩) (hw.block w.heap.size (by simp) (HZ.out 1 (by omega)))]; simp [go_sem]
  have q6 : w1.cell? ⟨w.heap.size, 6, none⟩ = some (.slice a5 t.hn c5) := by
    rw [World.cell?_of_block (w := w.alloc _) (a := ⟨w.heap.size, 6, none⟩) (hw.block w.heap.size (by simp) (HZ.out 1 (by omega)))]; simp [go_sem]
  have q7 : w1.cell? ⟨w.heap.size, 7, none⟩ = some (.slice a6 t.on c6) := by
    rw [World.cell?_of_block (w := w.alloc _) (a := ⟨w.heap.size, 7, none⟩) (hw.block w.heap.size (by simp) (HZ.out 1 (by omega)))]; simp [go_sem]
  have HW1 : Hid (WritesP (fun x => col x = 1) w w1) := (WritesP.below (below_new _ _)).trans hw
  have hz1 : w.heap.size < w1.heap.size := by have := hw.size; simp at this; omega
  replace H1 : Hid (OwnPgP w1 (fun x => col x = 1) a0 t.pn (mPg 1 t.pT)) := ho
  replace H2 : Hid (OwnD w1 l2 u2 a1 a2 t.d) := H2.out.keep HW1.out.size fun x x1 x2 x3 => HW1.out.block x x3 (by show ¬ col x = 1; rw [HG.out.1 x x1 x2]; omega)
  replace H3 : Hid (OwnG w1 l3 u3 a3 a4 t.g) := H3.out.keep HW1.out.size fun x x1 x2 x3 => HW1.out.block x x3 (by show ¬ col x = 1; rw [HG.out.2.1 x x1 x2]; omega)
  replace H4 : Hid (Own w1 l4 u4 a5 t.hn t.hK t.hV) := H4.out.keep HW1.out.size fun x x1 x2 x3 => HW1.out.block x x3 (by show ¬ col x = 1; rw [HG.out.2.2.1 x x1 x2]; omega)
  replace H5 : Hid (OwnI w1 l5 u5 a6 t.on t.oF) := H5.out.keep HW1.out.size fun x x1 x2 x3 => HW1.out.block x x3 (by show ¬ col x = 1; rw [HG.out.2.2.2 x x1 x2]; omega)
  have HWW : Hid (Writes lo hi w w1) := HW1.out.to fun x hx => HC.out x (by rw [hx]; omega)
  clear hw ho HW1
  go_wp2_with fail
  refine (markDisk_any t.d a1 a2 c1 c2 l2 u2 (1 + sPg t.pT t.pn) _ HS.out.1.2.1 (by omega) (by omega) H2.out).mono ?_
  rintro e w2 ⟨rfl, hw, ho⟩
  have HWP : Hid (WritesP (fun x => col x = 2) w1 w2) := WritesP.of hw HG.out.1
  have hz2 : w.heap.size < w2.heap.size := by have := hw.size; omega
  replace q4 : w2.cell? ⟨w.heap.size, 4, none⟩ = some (.slice a3 t.g.n1 c3) := (World.cell?_of_block (w := w1) (a := ⟨w.heap.size, 4, none⟩) (HWP.out.block w.heap.size hz1 (HZ.out 2 (by omega)))).trans q4
  replace q5 : w2.cell? ⟨w.heap.size, 5, none⟩ = some (.slice a4 t.g.n2 c4) := (World.cell?_of_block (w := w1) (a := ⟨w.heap.size, 5, none⟩) (HWP.out.block w.heap.size hz1 (HZ.out 2 (by omega)))).trans q5
  replace q6 : w2.cell? ⟨w.heap.size, 6, none⟩ = some (.slice a5 t.hn c5) := (World.cell?_of_block (w := w1) (a := ⟨w.heap.size, 6, none⟩) (HWP.out.block w.heap.size hz1 (HZ.out 2 (by omega)))).trans q6
  replace q7 : w2.cell? ⟨w.heap.size, 7, none⟩ = some (.slice a6 t.on c6) := (World.cell?_of_block (w := w1) (a := ⟨w.heap.size, 7, none⟩) (HWP.out.block w.heap.size hz1 (HZ.out 2 (by omega)))).trans q7
  replace H1 : Hid (OwnPgP w2 (fun x => col x = 1) a0 t.pn (mPg 1 t.pT)) := H1.out.keep HWP.out.size fun x hx hl => HWP.out.block x hl (by show ¬ col x = 2; rw [hx]; omega)
  replace H2 : Hid (OwnD w2 l2 u2 a1 a2 (mD (1 + sPg t.pT t.pn) t.d)) := ho
  replace H3 : Hid (OwnG w2 l3 u3 a3 a4 t.g) := H3.out.keep HWP.out.size fun x x1 x2 x3 => HWP.out.block x x3 (by show ¬ col x = 2; rw [HG.out.2.1 x x1 x2]; omega)
  replace H4 : Hid (Own w2 l4 u4 a5 t.hn t.hK t.hV) := H4.out.keep HWP.out.size fun x x1 x2 x3 => HWP.out.block x x3 (by show ¬ col x = 2; rw [HG.out.2.2.1 x x1 x2]; omega)
  replace H5 : Hid (OwnI w2 l5 u5 a6 t.on t.oF) := H5.out.keep HWP.out.size fun x x1 x2 x3 => HWP.out.block x x3 (by show ¬ col x = 2; rw [HG.out.2.2.2 x x1 x2]; omega)
  replace HWW : Hid (Writes lo hi w w2) := HWW.out.trans (HWP.out.to fun x hx => HC.out x (by rw [hx]; omega))
  clear hw ho HWP
  go_wp2_with fail
  refine (markLog_any t.g a3 a4 c3 c4 l3 u3 (1 + sPg t.pT t.pn + tot t.d) _ HS.out.1.2.2.1.1 HS.out.1.2.2.1.2 (by omega) (by omega) H3.out).mono ?_
  rintro e w3 ⟨rfl, hw, ho⟩
  have HWP : Hid (WritesP (fun x => col x = 3) w2 w3) := WritesP.of hw HG.out.2.1
  have hz3 : w.heap.size < w3.heap.size := by have := hw.size; omega
  replace q6 : w3.cell? ⟨w.heap.size, 6, none⟩ = some (.slice a5 t.hn c5) := (World.cell?_of_block (w := w2) (a := ⟨w.heap.size, 6, none⟩) (HWP.out.block w.heap.size hz2 (HZ.out 3 (by omega)))).trans q6
  replace q7 : w3.cell? ⟨w.heap.size, 7, none⟩ = some (.slice a6 t.on c6) := (World.cell?_of_block (w := w2) (a := ⟨w.heap.size, 7, none⟩) (HWP.out.block w.heap.size hz2 (HZ.out 3 (by omega)))).trans q7
  replace H1 : Hid (OwnPgP w3 (fun x => col x = 1) a0 t.pn (mPg 1 t.pT)) := H1.out.keep HWP.out.size fun x hx hl => HWP.out.block x hl (by show ¬ col x = 3; rw [hx]; omega)
  replace H2 : Hid (OwnD w3 l2 u2 a1 a2 (mD (1 + sPg t.pT t.pn) t.d)) := H2.out.keep HWP.out.size fun x x1 x2 x3 => HWP.out.block x x3 (by show ¬ col x = 3; rw [HG.out.1 x x1 x2]; omega)
  replace H3 : Hid (OwnG w3 l3 u3 a3 a4 (mG (1 + sPg t.pT t.pn + tot t.d) t.g)) := ho
  replace H4 : Hid (Own w3 l4 u4 a5 t.hn t.hK t.hV) := H4.out.keep HWP.out.size fun x x1 x2 x3 => HWP.out.block x x3 (by show ¬ col x = 3; rw [HG.out.2.2.1 x x1 x2]; omega)
  replace H5 : Hid (OwnI w3 l5 u5 a6 t.on t.oF) := H5.out.keep HWP.out.size fun x x1 x2 x3 => HWP.out.block x x3 (by show ¬ col x = 3; rw [HG.out.2.2.2 x x1 x2]; omega)
  replace HWW : Hid (Writes lo hi w w3) := HWW.out.trans (HWP.out.to fun x hx => HC.out x (by rw [hx]; omega))
  clear hw ho HWP
  go_wp2_with fail
  refine (markHeldS_any t.hn t.hK t.hV a5 c5 l4 u4 (1 + sPg t.pT t.pn + tot t.d + (t.g.n1 + t.g.n2 : Nat)) _ (by omega) (by omega) (by omega) H4.out).mono ?_
  rintro e w4 ⟨rfl, hw, ho⟩
  have HWP : Hid (WritesP (fun x => col x = 4) w3 w4) := WritesP.of hw HG.out.2.2.1
  have hz4 : w.heap.size < w4.heap.size := by have := hw.size; omega
  replace q7 : w4.cell? ⟨w.heap.size, 7, none⟩ = some (.slice a6 t.on c6) := (World.cell?_of_block (w := w3) (a := ⟨w.heap.size, 7, none⟩) (HWP.out.block w.heap.size hz3 (HZ.out 4 (by omega)))).trans q7
  replace H1 : Hid (OwnPgP w4 (fun x => col x = 1) a0 t.pn (mPg 1 t.pT)) := H1.out.keep HWP.out.size fun x hx hl => HWP.out.block x hl (by show ¬ col x = 4; rw [hx]; omega)
  replace H2 : Hid (OwnD w4 l2 u2 a1 a2 (mD (1 + sPg t.pT t.pn) t.d)) := H2.out.keep HWP.out.size fun x x1 x2 x3 => HWP.out.block x x3 (by show ¬ col x = 4; rw [HG.out.1 x x1 x2]; omega)
  replace H3 : Hid (OwnG w4 l3 u3 a3 a4 (mG (1 + sPg t.pT t.pn + tot t.d) t.g)) := H3.out.keep HWP.out.size fun x x1 x2 x3 => HWP.out.block x x3 (by show ¬ col x = 4; rw [HG.out.2.1 x x1 x2]; omega)
  replace H4 : Hid (Own w4 l4 u4 a5 t.hn (mK (1 + sPg t.pT t.pn + tot t.d + (t.g.n1 + t.g.n2 : Nat))) (mK (1 + sPg t.pT t.pn + tot t.d + (t.g.n1 + t.g.n2 : Nat) + 1))) := ho
  replace H5 : Hid (OwnI w4 l5 u5 a6 t.on t.oF) := H5.out.keep HWP.out.size fun x x1 x2 x3 => HWP.out.block x x3 (by show ¬ col x = 4; rw [HG.out.2.2.2 x x1 x2]; omega)
  replace HWW : Hid (Writes lo hi w w4) := HWW.out.trans (HWP.out.to fun x hx => HC.out x (by rw [hx]; omega))
  clear hw ho HWP
  go_wp2_with fail
  refine (markInt64S_any t.on t.oF a6 c6 l5 u5 (1 + sPg t.pT t.pn + tot t.d + (t.g.n1 + t.g.n2 : Nat) + t.hn * 2) _ (by omega) (by omega) (by omega) H5.out).mono ?_
  rintro e w5 ⟨rfl, hw, ho⟩
  have HWP : Hid (WritesP (fun x => col x = 5) w4 w5) := WritesP.of hw HG.out.2.2.2
  have hz5 : w.heap.size < w5.heap.size := by have := hw.size; omega
  replace H1 : Hid (OwnPgP w5 (fun x => col x = 1) a0 t.pn (mPg 1 t.pT)) := H1.out.keep HWP.out.size fun x hx hl => HWP.out.block x hl (by show ¬ col x = 5; rw [hx]; omega)
  replace H2 : Hid (OwnD w5 l2 u2 a1 a2 (mD (1 + sPg t.pT t.pn) t.d)) := H2.out.keep HWP.out.size fun x x1 x2 x3 => HWP.out.block x x3 (by show ¬ col x = 5; rw [HG.out.1 x x1 x2]; omega)
  replace H3 : Hid (OwnG w5 l3 u3 a3 a4 (mG (1 + sPg t.pT t.pn + tot t.d) t.g)) := H3.out.keep HWP.out.size fun x x1 x2 x3 => HWP.out.block x x3 (by show ¬ col x = 5; rw [HG.out.2.1 x x1 x2]; omega)
  replace H4 : Hid (Own w5 l4 u4 a5 t.hn (mK (1 + sPg t.pT t.pn + tot t.d + (t.g.n1 + t.g.n2 : Nat))) (mK (1 + sPg t.pT t.pn + tot t.d + (t.g.n1 + t.g.n2 : Nat) + 1))) := H4.out.keep HWP.out.size fun x x1 x2 x3 => HWP.out.block x x3 (by show ¬ col x = 5; rw [HG.out.2.2.1 x x1 x2]; omega)
  replace H5 : Hid (OwnI w5 l5 u5 a6 t.on (ik (1 + sPg t.pT t.pn + tot t.d + (t.g.n1 + t.g.n2 : Nat) + t.hn * 2))) := ho
  replace HWW : Hid (Writes lo hi w w5) := HWW.out.trans (HWP.out.to fun x hx => HC.out x (by rw [hx]; omega))
  clear hw ho HWP
  go_wp2_with fail
  go_ret
  refine ⟨ret_int (by rw [HT.out]; omega), HWW.out, ?_⟩
  exact ⟨by have := HWW.out.size; omega, col, HC.out, H1.out, ⟨l2, u2, HG.out.1, H2.out⟩, ⟨l3, u3, HG.out.2.1, H3.out⟩, ⟨l4, u4, HG.out.2.2.1, H4.out⟩, ⟨l5, u5, HG.out.2.2.2, H5.out⟩⟩
set_option maxHeartbeats 4000000 in
theorem heldStore_any (t : Sto) (a0 : Option Addr) (c0 : Nat) (a1 : Option Addr) (c1 : Nat) (a2 : Option Addr) (c2 : Nat) (a3 : Option Addr) (c3 : Nat) (a4 : Option Addr) (c4 : Nat) (a5 : Option Addr) (c5 : Nat) (a6 : Option Addr) (c6 : Nat) (w : World) (hs : FewS t) (h : InSt w a0 a1 a2 a3 a4 a5 a6 (mS 1 t)) :
    Calls Tryz.prog 51 #[.agg #[.int .i64 t.nx, .slice a0 t.pn c0, .slice a1 t.d.n c1, .slice a2 t.d.m c2, .slice a3 t.g.n1 c3, .slice a4 t.g.n2 c4, .slice a5 t.hn c5, .slice a6 t.on c6], .int .i64 1] w fun e w' => e = .returned (.int .i64 (1 + totS t)) ∧ Below w.heap.size w w' := by
  have HS : Hid (FewS t) := hs
  have hf := hs.2
  have hhn := hs.1.2.2.2.1
  have hon := hs.1.2.2.2.2
  have HT : Hid ((totS t : Int) = sPg t.pT t.pn + tot t.d + (t.g.n1 + t.g.n2 : Nat) + t.hn * 2 + t.on) := by simp [totS, Hid]
  have HA : Hid (PgsAt w a0 t.pn (mPg 1 t.pT) ∧ DiskAt w a1 a2 (mD (1 + sPg t.pT t.pn) t.d) ∧ LogAt w a3 a4 (mG (1 + sPg t.pT t.pn + tot t.d) t.g) ∧ CellsAt w a5 t.hn (mK (1 + sPg t.pT t.pn + tot t.d + (t.g.n1 + t.g.n2 : Nat))) (mK (1 + sPg t.pT t.pn + tot t.d + (t.g.n1 + t.g.n2 : Nat) + 1)) ∧ IntsAt w a6 t.on (ik (1 + sPg t.pT t.pn + tot t.d + (t.g.n1 + t.g.n2 : Nat) + t.hn * 2))) := h
  clear hs h
  go_enter Tryz.func51, Tryz.ntmps51
  go_wp2_with fail
  refine (heldPageS_any t.pn t.pT a0 c0 1 _ HS.out.1.1.1 HS.out.1.1.2.2 (by omega) (by omega) (HA.out.1.below (below_new _ _))).mono ?_
  rintro e w1 ⟨rfl, hw⟩
  have HB : Hid (Below w.heap.size w w1) := by rw [hw]; exact below_new _ _
  have q2 : w1.cell? ⟨w.heap.size, 2, none⟩ = some (.slice a1 t.d.n c1) := by rw [hw]; simp [go_sem]
  have q3 : w1.cell? ⟨w.heap.size, 3, none⟩ = some (.slice a2 t.d.m c2) := by rw [hw]; simp [go_sem]
  have q4 : w1.cell? ⟨w.heap.size, 4, none⟩ = some (.slice a3 t.g.n1 c3) := by rw [hw]; simp [go_sem]
  have q5 : w1.cell? ⟨w.heap.size, 5, none⟩ = some (.slice a4 t.g.n2 c4) := by rw [hw]; simp [go_sem]
  have q6 : w1.cell? ⟨w.heap.size, 6, none⟩ = some (.slice a5 t.hn c5) := by rw [hw]; simp [go_sem]
  have q7 : w1.cell? ⟨w.heap.size, 7, none⟩ = some (.slice a6 t.on c6) := by rw [hw]; simp [go_sem]
  clear hw
  have hn0 : ¬ ((1 : Int) + sPg t.pT t.pn < 0) := by omega
  go_wp2_with fail
  refine (heldDisk_any t.d a1 a2 c1 c2 (1 + sPg t.pT t.pn) _ HS.out.1.2.1 (by omega) (by omega) (HA.out.2.1.below HB.out)).mono ?_
  rintro e w2 ⟨rfl, hb⟩
  replace HB : Hid (Below w.heap.size w w2) := below_then HB.out hb
  replace q4 := cell_below q4 hb
  replace q5 := cell_below q5 hb
  replace q6 := cell_below q6 hb
  replace q7 := cell_below q7 hb
  clear hb
  have hn2 : ¬ ((1 + sPg t.pT t.pn + tot t.d : Int) < 0) := by omega
  go_wp2_with fail
  refine (heldLog_any t.g a3 a4 c3 c4 (1 + sPg t.pT t.pn + tot t.d) _ HS.out.1.2.2.1.1 HS.out.1.2.2.1.2 (by omega) (by omega) (HA.out.2.2.1.below HB.out)).mono ?_
  rintro e w3 ⟨rfl, hb⟩
  replace HB : Hid (Below w.heap.size w w3) := below_then HB.out hb
  replace q6 := cell_below q6 hb
  replace q7 := cell_below q7 hb
  clear hb
  have hn3 : ¬ ((1 + sPg t.pT t.pn + tot t.d + (t.g.n1 + t.g.n2 : Nat) : Int) < 0) := by omega
  go_wp2_with fail
  refine (heldHeldS_any t.hn a5 c5 (1 + sPg t.pT t.pn + tot t.d + (t.g.n1 + t.g.n2 : Nat)) _ (by omega) (by omega) (by omega) (HA.out.2.2.2.1.below HB.out)).mono ?_
  rintro e w4 ⟨rfl, hq⟩
  have hb : Below w3.heap.size w3 w4 := by rw [hq]; exact Below.refl _ _
  replace HB : Hid (Below w.heap.size w w4) := below_then HB.out hb
  replace q7 := cell_below q7 hb
  clear hb hq
  have hn4 : ¬ ((1 + sPg t.pT t.pn + tot t.d + (t.g.n1 + t.g.n2 : Nat) + t.hn * 2 : Int) < 0) := by omega
  go_wp2_with fail
  refine (heldInt64S_any t.on a6 c6 (1 + sPg t.pT t.pn + tot t.d + (t.g.n1 + t.g.n2 : Nat) + t.hn * 2) _ (by omega) (by omega) (by omega) (HA.out.2.2.2.2.below HB.out)).mono ?_
  rintro e w5 ⟨rfl, hq⟩
  have hb : Below w4.heap.size w4 w5 := by rw [hq]; exact Below.refl _ _
  replace HB : Hid (Below w.heap.size w w5) := below_then HB.out hb
  clear hb hq
  have hn5 : ¬ ((1 + sPg t.pT t.pn + tot t.d + (t.g.n1 + t.g.n2 : Nat) + t.hn * 2 + t.on : Int) < 0) := by omega
  go_wp2_with fail
  go_ret
  exact ⟨ret_int (by rw [HT.out]; omega), HB.out⟩
theorem markStoreResult_any (c v : Int) (t : Sto) (a0 : Option Addr) (c0 : Nat) (a1 : Option Addr) (c1 : Nat) (a2 : Option Addr) (c2 : Nat) (a3 : Option Addr) (c3 : Nat) (a4 : Option Addr) (c4 : Nat) (a5 : Option Addr) (c5 : Nat) (a6 : Option Addr) (c6 : Nat) (lo hi : Nat) (w : World) (hs : FewS t) (h : OwnS w lo hi a0 a1 a2 a3 a4 a5 a6 t) :
    Calls Tryz.prog 13 #[.agg #[.int .i64 c, .int .i64 v, .int .i64 t.nx, .slice a0 t.pn c0, .slice a1 t.d.n c1, .slice a2 t.d.m c2, .slice a3 t.g.n1 c3, .slice a4 t.g.n2 c4, .slice a5 t.hn c5, .slice a6 t.on c6], .int .i64 1] w fun e w' => e = .returned (.int .i64 (1 + totS t)) ∧ Writes lo hi w w' ∧ OwnS w' lo hi a0 a1 a2 a3 a4 a5 a6 (mS 1 t) := by
  have HS : Hid (FewS t) := hs
  have HO : Hid (OwnS w lo hi a0 a1 a2 a3 a4 a5 a6 t) := h
  clear hs h
  go_enter Tryz.func13, Tryz.ntmps13
  go_wp2_with fail
  refine (markStore_any t a0 c0 a1 c1 a2 c2 a3 c3 a4 c4 a5 c5 a6 c6 lo hi _ HS.out (HO.out.below (below_new _ _))).mono ?_
  rintro e w1 ⟨rfl, hw, ho⟩
  go_wp2_with fail
  go_ret
  exact ⟨rfl, (Writes.of_below (below_new _ _)).trans hw, ho⟩
theorem heldStoreResult_any (c v : Int) (t : Sto) (a0 : Option Addr) (c0 : Nat) (a1 : Option Addr) (c1 : Nat) (a2 : Option Addr) (c2 : Nat) (a3 : Option Addr) (c3 : Nat) (a4 : Option Addr) (c4 : Nat) (a5 : Option Addr) (c5 : Nat) (a6 : Option Addr) (c6 : Nat) (w : World) (hs : FewS t) (h : InSt w a0 a1 a2 a3 a4 a5 a6 (mS 1 t)) :
    Calls Tryz.prog 14 #[.agg #[.int .i64 c, .int .i64 v, .int .i64 t.nx, .slice a0 t.pn c0, .slice a1 t.d.n c1, .slice a2 t.d.m c2, .slice a3 t.g.n1 c3, .slice a4 t.g.n2 c4, .slice a5 t.hn c5, .slice a6 t.on c6], .int .i64 1] w fun e w' => e = .returned (.int .i64 (1 + totS t)) ∧ Below w.heap.size w w' := by
  have HS : Hid (FewS t) := hs
  have HA : Hid (InSt w a0 a1 a2 a3 a4 a5 a6 (mS 1 t)) := h
  have hng : ¬ ((1 : Int) + totS t < 0) := by omega
  clear hs h
  go_enter Tryz.func14, Tryz.ntmps14
  go_wp2_with fail
  refine (heldStore_any t a0 c0 a1 c1 a2 c2 a3 c3 a4 c4 a5 c5 a6 c6 _ HS.out (HA.out.below (below_new _ _))).mono ?_
  rintro e w1 ⟨rfl, hb⟩
  go_wp2_with fail
  go_ret
  exact ⟨rfl, below_then (below_new _ _) hb⟩
theorem eqStoreResult_same (c v : Int) (t : Sto) (a0 : Option Addr) (c0 : Nat) (a1 : Option Addr) (c1 : Nat) (a2 : Option Addr) (c2 : Nat) (a3 : Option Addr) (c3 : Nat) (a4 : Option Addr) (c4 : Nat) (a5 : Option Addr) (c5 : Nat) (a6 : Option Addr) (c6 : Nat) (d0 : Option Addr) (e0 : Nat) (d1 : Option Addr) (e1 : Nat) (d2 : Option Addr) (e2 : Nat) (d3 : Option Addr) (e3 : Nat) (d4 : Option Addr) (e4 : Nat) (d5 : Option Addr) (e5 : Nat) (d6 : Option Addr) (e6 : Nat) (w : World) (hS : SmSt t) (h : InSt w a0 a1 a2 a3 a4 a5 a6 t) (h' : InSt w d0 d1 d2 d3 d4 d5 d6 t) :
    Calls Tryz.prog 10 #[.agg #[.int .i64 c, .int .i64 v, .int .i64 t.nx, .slice a0 t.pn c0, .slice a1 t.d.n c1, .slice a2 t.d.m c2, .slice a3 t.g.n1 c3, .slice a4 t.g.n2 c4, .slice a5 t.hn c5, .slice a6 t.on c6], .agg #[.int .i64 c, .int .i64 v, .int .i64 t.nx, .slice d0 t.pn e0, .slice d1 t.d.n e1, .slice d2 t.d.m e2, .slice d3 t.g.n1 e3, .slice d4 t.g.n2 e4, .slice d5 t.hn e5, .slice d6 t.on e6]] w fun e w' => e = .returned (.bool true) ∧ Below w.heap.size w w' := by
  have HS : Hid (SmSt t) := hS
  have HA : Hid (InSt w a0 a1 a2 a3 a4 a5 a6 t) := h
  have HD : Hid (InSt w d0 d1 d2 d3 d4 d5 d6 t) := h'
  have hne0 : (c != c) = false := by simp
  have hne1 : (v != v) = false := by simp
  have hb0 : ∀ o1 o2, Below w.heap.size w ((w.alloc o1).alloc o2) := fun o1 o2 => (((Below.refl _ _).alloc (Nat.le_refl _) _).alloc (by simp) _)
  clear hS h h'
  go_enter Tryz.func10, Tryz.ntmps10
  go_wp2_with fail
  refine (eqStore_same t a0 c0 a1 c1 a2 c2 a3 c3 a4 c4 a5 c5 a6 c6 d0 e0 d1 e1 d2 e2 d3 e3 d4 e4 d5 e5 d6 e6 _ HS.out (HA.out.below (hb0 _ _)) (HD.out.below (hb0 _ _))).mono ?_
  rintro e w1 ⟨rfl, hb⟩
  go_wp2_with fail
  go_ret
  exact ⟨rfl, below_then (hb0 _ _) hb⟩
/-- An answer that is a store in blocks of its own. -/
def SRes (c v : Int) (t : Sto) (w : World) (e : Ending) (w' : World) : Prop :=
  ∃ a0 c0 a1 c1 a2 c2 a3 c3 a4 c4 a5 c5 a6 c6, e = .returned (.agg #[.int .i64 c, .int .i64 v, .int .i64 t.nx, .slice a0 t.pn c0, .slice a1 t.d.n c1, .slice a2 t.d.m c2, .slice a3 t.g.n1 c3, .slice a4 t.g.n2 c4, .slice a5 t.hn c5, .slice a6 t.on c6]) ∧ Below w.heap.size w w' ∧ OwnS w' w.heap.size w'.heap.size a0 a1 a2 a3 a4 a5 a6 t
/-- No store. -/
def zSt : Sto := ⟨0, 0, fun _ => zPg, ⟨0, fun _ => 0, fun _ _ => 0, 0, fun _ => 0, fun _ => 0, fun _ => 0, fun _ _ => 0⟩, ⟨0, fun _ => 0, 0, fun _ => 0⟩, 0, fun _ => 0, fun _ => 0, 0, fun _ => 0⟩
theorem zSt_few : FewS zSt := ⟨⟨⟨Nat.zero_le _, fun i hi => absurd hi (Nat.not_lt_zero _), Nat.zero_le _⟩, ⟨Nat.zero_le _, Nat.zero_le _, fun i hi => absurd hi (Nat.not_lt_zero _), fun i hi => absurd hi (Nat.not_lt_zero _), Nat.zero_le _, Nat.zero_le _⟩, ⟨Nat.zero_le _, Nat.zero_le _⟩, Nat.zero_le _, Nat.zero_le _⟩, by simp [zSt, sPg, smf9, tot, sumL, s2]⟩
theorem zSt_own (w : World) (lo : Nat) : OwnS w lo w.heap.size none none none none none none none zSt :=
  ⟨Nat.le_refl _, fun _ => 0, fun x hx => absurd rfl hx, .inl rfl, ⟨0, 0, fun x _ h => absurd h (Nat.not_lt_zero _), Nat.zero_le _, 0, 0, 0, 0, Nat.le_refl _, Nat.le_refl _, Nat.le_refl _, Nat.le_refl _, .inl (Nat.le_refl _), ⟨Nat.zero_le _, .inl rfl⟩, ⟨Nat.zero_le _, .inl rfl⟩⟩, ⟨0, 0, fun x _ h => absurd h (Nat.not_lt_zero _), Nat.zero_le _, 0, 0, 0, 0, Nat.le_refl _, Nat.le_refl _, Nat.le_refl _, Nat.le_refl _, .inl (Nat.le_refl _), ⟨Nat.zero_le _, .inl rfl⟩, ⟨Nat.zero_le _, .inl rfl⟩⟩, ⟨0, 0, fun x _ h => absurd h (Nat.not_lt_zero _), Nat.zero_le _, .inl rfl⟩, ⟨0, 0, fun x _ h => absurd h (Nat.not_lt_zero _), Nat.zero_le _, .inl rfl⟩⟩
theorem sres_bad {c : Int} {w w' : World} (hb : Below w.heap.size w w') : SRes c 0 zSt w (.returned (.agg #[.int .i64 c, .int .i64 0, .int .i64 0, .slice none 0 0, .slice none 0 0, .slice none 0 0, .slice none 0 0, .slice none 0 0, .slice none 0 0, .slice none 0 0])) w' :=
  ⟨none, 0, none, 0, none, 0, none, 0, none, 0, none, 0, none, 0, rfl, hb, zSt_own _ _⟩
theorem sPg_le {t : Sto} (h : SmSt t) : sPg t.pT t.pn ≤ 4194304 := by
  have h1 := h.1.1
  have h2 := h.1.2.2
  have h3 := sPg_eq t.pT t.pn
  omega
set_option maxHeartbeats 400000 in
theorem markDisk_b (D : Dk) (a a' : Option Addr) (cap cap' lo hi : Nat) (m : Int) (w : World) (hs : Small D) (hm1 : 0 ≤ m) (hm2 : m ≤ 6291456) (h : OwnD w lo hi a a' D) :
    Calls Tryz.prog 47 #[.agg #[.slice a D.n cap, .slice a' D.m cap'], .int .i64 m] w fun e w' => e = .returned (.int .i64 (m + tot D)) ∧ Writes lo hi w w' ∧ OwnD w' lo hi a a' (mD m D) := by
  have HS : Hid (Small D) := hs
  have hsum := hs.s
  unfold tot mD
  obtain ⟨n, L, Z, n', P, T, M, Y⟩ := D
  obtain ⟨h0, l1, h1, l2, h2, e1, e2, e3, e4, e5, hp, hl⟩ := h
  dsimp only at *
  have HP : Hid (OwnP w l1 h1 a n L Z) := hp
  have HL : Hid (OwnL w l2 h2 a' n' P T M Y) := hl
  clear hs hp hl
  go_enter Tryz.func47, Tryz.ntmps47
  go_wp2_with fail
  refine (markByteSS_any n L Z a cap l1 h1 m _ HS.out.n HS.out.s hm1 (by omega) (HP.out.below (below_new _ _))).mono ?_
  rintro e w1 ⟨rfl, hw1, ho1⟩
  have HW : Hid (Writes l1 h1 w w1) := (Writes.of_below (below_new _ _)).trans hw1
  have hlt : h1 ≤ w.heap.size := HP.out.1
  have q1 : w1.cell? ⟨w.heap.size, 1, none⟩ = some (.slice a' n' cap') := by
    rw [hw1.cell (by simp) (by omega) _]; simp [go_sem]
  have HO1 : Hid (OwnP w1 l1 h1 a n L (mZ m L)) := ho1
  have hz1 : w.heap.size ≤ w1.heap.size := HW.out.size
  clear hw1 ho1
  go_wp2_with fail
  refine (markLooseS_any n' P T M Y a' cap' l2 h2 (m + sumL L n) _ HS.out.m HS.out.t (by omega) (by omega) (HL.out.writes HW.out (by omega))).mono ?_
  rintro e w2 ⟨rfl, hw2, ho2⟩
  have hz2 : w1.heap.size ≤ w2.heap.size := hw2.size
  go_wp2_with fail
  go_ret
  refine ⟨ret_int (by rw [Int.natCast_add]; omega), (HW.out.wide e1 e2).trans (hw2.wide e3 e4), ?_⟩
  exact OwnD.mk' (by omega) e1 e2 e3 e4 e5 (HO1.out.writes hw2 (by omega)) ho2
theorem markLog_b (L : Lo) (a1 a2 : Option Addr) (c1 c2 lo hi : Nat) (m : Int) (w : World) (hn1 : L.n1 ≤ 1048576) (hn2 : L.n2 ≤ 1048576) (hm1 : 0 ≤ m) (hm2 : m ≤ 33554432) (h : OwnG w lo hi a1 a2 L) :
    Calls Tryz.prog 48 #[.agg #[.slice a1 L.n1 c1, .slice a2 L.n2 c2], .int .i64 m] w fun e w' => e = .returned (.int .i64 (m + (L.n1 + L.n2 : Nat))) ∧ Writes lo hi w w' ∧ OwnG w' lo hi a1 a2 (mG m L) := by
  obtain ⟨n, z, k, y⟩ := L
  obtain ⟨h0, l1, h1, l2, h2, e1, e2, e3, e4, e5, hp, hl⟩ := h
  unfold mG
  dsimp only at *
  have HP : Hid (OwnB w l1 h1 a1 n z) := hp
  have HL : Hid (OwnB w l2 h2 a2 k y) := hl
  clear hp hl
  go_enter Tryz.func48, Tryz.ntmps48
  go_wp2_with fail
  refine (markByteS_any n z a1 c1 l1 h1 m _ (by omega) hm1 (by omega) (HP.out.below (below_new _ _))).mono ?_
  rintro e w1 ⟨rfl, hw1, ho1⟩
  have HW : Hid (Writes l1 h1 w w1) := (Writes.of_below (below_new _ _)).trans hw1
  have hlt : h1 ≤ w.heap.size := HP.out.1
  have q1 : w1.cell? ⟨w.heap.size, 1, none⟩ = some (.slice a2 k c2) := by
    rw [hw1.cell (by simp) (by omega) _]; simp [go_sem]
  have HO1 : Hid (OwnB w1 l1 h1 a1 n (bk m)) := ho1
  have hz1 : w.heap.size ≤ w1.heap.size := HW.out.size
  clear hw1 ho1
  go_wp2_with fail
  refine (markByteS_any k y a2 c2 l2 h2 (m + n) _ (by omega) (by omega) (by omega) (HL.out.writes HW.out (by omega))).mono ?_
  rintro e w2 ⟨rfl, hw2, ho2⟩
  have hz2 : w1.heap.size ≤ w2.heap.size := hw2.size
  go_wp2_with fail
  go_ret
  have wd : ∀ {a b c d : Nat} {u v : World}, Writes a b u v → c ≤ a → b ≤ d → Writes c d u v := fun hh g1 g2 => ⟨hh.os, hh.tape, hh.output, hh.size, fun q hq hd => hh.block q hq (by omega)⟩
  exact ⟨ret_int (by omega), (wd HW.out e1 e2).trans (wd hw2 e3 e4), by omega, l1, h1, l2, h2, e1, e2, e3, e4, e5, HO1.out.writes hw2 (by omega), ho2⟩
set_option maxHeartbeats 4000000 in
theorem markStore_b (t : Sto) (a0 : Option Addr) (c0 : Nat) (a1 : Option Addr) (c1 : Nat) (a2 : Option Addr) (c2 : Nat) (a3 : Option Addr) (c3 : Nat) (a4 : Option Addr) (c4 : Nat) (a5 : Option Addr) (c5 : Nat) (a6 : Option Addr) (c6 : Nat) (lo hi : Nat) (w : World) (hs0 : SmSt t) (h : OwnS w lo hi a0 a1 a2 a3 a4 a5 a6 t) :
    Calls Tryz.prog 12 #[.agg #[.int .i64 t.nx, .slice a0 t.pn c0, .slice a1 t.d.n c1, .slice a2 t.d.m c2, .slice a3 t.g.n1 c3, .slice a4 t.g.n2 c4, .slice a5 t.hn c5, .slice a6 t.on c6], .int .i64 1] w fun e w' => e = .returned (.int .i64 (1 + totS t)) ∧ Writes lo hi w w' ∧ OwnS w' lo hi a0 a1 a2 a3 a4 a5 a6 (mS 1 t) := by
  have hs : SmSt t ∧ sPg t.pT t.pn + tot t.d + t.g.n1 + t.g.n2 ≤ 10485760 := ⟨hs0, by have := sPg_le hs0; have := tot_le hs0.2.1; have := hs0.2.2.1; omega⟩
  have HS : Hid (SmSt t ∧ sPg t.pT t.pn + tot t.d + t.g.n1 + t.g.n2 ≤ 10485760) := hs
  have hpp := sPg_le hs0
  have htt := tot_le hs0.2.1
  have hf := hs.2
  have hhn := hs.1.2.2.2.1
  have hon := hs.1.2.2.2.2
  obtain ⟨h0, col, hc, h1, ⟨l2, u2, g2, h2⟩, ⟨l3, u3, g3, h3⟩, ⟨l4, u4, g4, h4⟩, ⟨l5, u5, g5, h5⟩⟩ := h
  have HC : Hid (∀ x, col x ≠ 0 → lo ≤ x ∧ x < hi) := hc
  have HT : Hid ((totS t : Int) = sPg t.pT t.pn + tot t.d + (t.g.n1 + t.g.n2 : Nat) + t.hn * 2 + t.on) := by simp [totS, Hid]
  have H1 : Hid (OwnPgP w (fun x => col x = 1) a0 t.pn t.pT) := h1
  have H2 : Hid (OwnD w l2 u2 a1 a2 t.d) := h2
  have H3 : Hid (OwnG w l3 u3 a3 a4 t.g) := h3
  have H4 : Hid (Own w l4 u4 a5 t.hn t.hK t.hV) := h4
  have H5 : Hid (OwnI w l5 u5 a6 t.on t.oF) := h5
  have HG : Hid ((∀ x, l2 ≤ x → x < u2 → col x = 2) ∧ (∀ x, l3 ≤ x → x < u3 → col x = 3) ∧ (∀ x, l4 ≤ x → x < u4 → col x = 4) ∧ ∀ x, l5 ≤ x → x < u5 → col x = 5) := ⟨g2, g3, g4, g5⟩
  have HZ : Hid (∀ k, k ≠ 0 → col w.heap.size ≠ k) := fun k hk e => by have := hc w.heap.size (by omega); omega
  clear hs h1 h2 h3 h4 h5 g2 g3 g4 g5 hc
  go_enter Tryz.func12, Tryz.ntmps12
  go_wp2_with fail
  refine (markPageS_P t.pn t.pT a0 c0 (fun x => col x = 1) 1 _ HS.out.1.1.1 HS.out.1.1.2.2 (by omega) (by omega) (H1.out.keep (below_new _ _).size fun x _ hl => (below_new _ _).block x hl)).mono ?_
  rintro e w1 ⟨rfl, hw, ho⟩
  have q2 : w1.cell? ⟨w.heap.size, 2, none⟩ = some (.slice a1 t.d.n c1) := by
    rw [World.cell?_of_block (w := w.alloc _) (a := ⟨w.heap.size, 2, none⟩) (hw.block w.heap.size (by simp) (HZ.out 1 (by omega)))]; simp [go_sem]
  have q3 : w1.cell? ⟨w.heap.size, 3, none⟩ = some (.slice a2 t.d.m c2) := by
    rw [World.cell?_of_block (w := w.alloc _) (a := ⟨w.heap.size, 3, none⟩) (hw.block w.heap.size (by simp) (HZ.out 1 (by omega)))]; simp [go_sem]
  have q4 : w1.cell? ⟨w.heap.size, 4, none⟩ = some (.slice a3 t.g.n1 c3) := by
    rw [World.cell?_of_block (w := w.alloc _) (a := ⟨w.heap.size, 4, none⟩) (hw.block w.heap.size (by simp) (HZ.out 1 (by omega)))]; simp [go_sem]
  have q5 : w1.cell? ⟨w.heap.size, 5, none⟩ = some (.slice a4 t.g.n2 c4) := by
    rw [World.cell?_of_block (w := w.alloc _) (a := ⟨w.heap.size, 5, none⟩) (hw.block w.heap.size (by simp) (HZ.out 1 (by omega)))]; simp [go_sem]
  have q6 : w1.cell? ⟨w.heap.size, 6, none⟩ = some (.slice a5 t.hn c5) := by
    rw [World.cell?_of_block (w := w.alloc _) (a := ⟨w.heap.size, 6, none⟩) (hw.block w.heap.size (by simp) (HZ.out 1 (by omega)))]; simp [go_sem]
  have q7 : w1.cell? ⟨w.heap.size, 7, none⟩ = some (.slice a6 t.on c6) := by
    rw [World.cell?_of_block (w := w.alloc _) (a := ⟨w.heap.size, 7, none⟩) (hw.block w.heap.size (by simp) (HZ.out 1 (by omega)))]; simp [go_sem]
  have HW1 : Hid (WritesP (fun x => col x = 1) w w1) := (WritesP.below (below_new _ _)).trans hw
  have hz1 : w.heap.size < w1.heap.size := by have := hw.size; simp at this; omega
  replace H1 : Hid (OwnPgP w1 (fun x => col x = 1) a0 t.pn (mPg 1 t.pT)) := ho
  replace H2 : Hid (OwnD w1 l2 u2 a1 a2 t.d) := H2.out.keep HW1.out.size fun x x1 x2 x3 => HW1.out.block x x3 (by show ¬ col x = 1; rw [HG.out.1 x x1 x2]; omega)
  replace H3 : Hid (OwnG w1 l3 u3 a3 a4 t.g) := H3.out.keep HW1.out.size fun x x1 x2 x3 => HW1.out.block x x3 (by show ¬ col x = 1; rw [HG.out.2.1 x x1 x2]; omega)
  replace H4 : Hid (Own w1 l4 u4 a5 t.hn t.hK t.hV) := H4.out.keep HW1.out.size fun x x1 x2 x3 => HW1.out.block x x3 (by show ¬ col x = 1; rw [HG.out.2.2.1 x x1 x2]; omega)
  replace H5 : Hid (OwnI w1 l5 u5 a6 t.on t.oF) := H5.out.keep HW1.out.size fun x x1 x2 x3 => HW1.out.block x x3 (by show ¬ col x = 1; rw [HG.out.2.2.2 x x1 x2]; omega)
  have HWW : Hid (Writes lo hi w w1) := HW1.out.to fun x hx => HC.out x (by rw [hx]; omega)
  clear hw ho HW1
  go_wp2_with fail
  refine (markDisk_b t.d a1 a2 c1 c2 l2 u2 (1 + sPg t.pT t.pn) _ HS.out.1.2.1 (by omega) (by omega) H2.out).mono ?_
  rintro e w2 ⟨rfl, hw, ho⟩
  have HWP : Hid (WritesP (fun x => col x = 2) w1 w2) := WritesP.of hw HG.out.1
  have hz2 : w.heap.size < w2.heap.size := by have := hw.size; omega
  replace q4 : w2.cell? ⟨w.heap.size, 4, none⟩ = some (.slice a3 t.g.n1 c3) := (World.cell?_of_block (w := w1) (a := ⟨w.heap.size, 4, none⟩) (HWP.out.block w.heap.size hz1 (HZ.out 2 (by omega)))).trans q4
  replace q5 : w2.cell? ⟨w.heap.size, 5, none⟩ = some (.slice a4 t.g.n2 c4) := (World.cell?_of_block (w := w1) (a := ⟨w.heap.size, 5, none⟩) (HWP.out.block w.heap.size hz1 (HZ.out 2 (by omega)))).trans q5
  replace q6 : w2.cell? ⟨w.heap.size, 6, none⟩ = some (.slice a5 t.hn c5) := (World.cell?_of_block (w := w1) (a := ⟨w.heap.size, 6, none⟩) (HWP.out.block w.heap.size hz1 (HZ.out 2 (by omega)))).trans q6
  replace q7 : w2.cell? ⟨w.heap.size, 7, none⟩ = some (.slice a6 t.on c6) := (World.cell?_of_block (w := w1) (a := ⟨w.heap.size, 7, none⟩) (HWP.out.block w.heap.size hz1 (HZ.out 2 (by omega)))).trans q7
  replace H1 : Hid (OwnPgP w2 (fun x => col x = 1) a0 t.pn (mPg 1 t.pT)) := H1.out.keep HWP.out.size fun x hx hl => HWP.out.block x hl (by show ¬ col x = 2; rw [hx]; omega)
  replace H2 : Hid (OwnD w2 l2 u2 a1 a2 (mD (1 + sPg t.pT t.pn) t.d)) := ho
  replace H3 : Hid (OwnG w2 l3 u3 a3 a4 t.g) := H3.out.keep HWP.out.size fun x x1 x2 x3 => HWP.out.block x x3 (by show ¬ col x = 2; rw [HG.out.2.1 x x1 x2]; omega)
  replace H4 : Hid (Own w2 l4 u4 a5 t.hn t.hK t.hV) := H4.out.keep HWP.out.size fun x x1 x2 x3 => HWP.out.block x x3 (by show ¬ col x = 2; rw [HG.out.2.2.1 x x1 x2]; omega)
  replace H5 : Hid (OwnI w2 l5 u5 a6 t.on t.oF) := H5.out.keep HWP.out.size fun x x1 x2 x3 => HWP.out.block x x3 (by show ¬ col x = 2; rw [HG.out.2.2.2 x x1 x2]; omega)
  replace HWW : Hid (Writes lo hi w w2) := HWW.out.trans (HWP.out.to fun x hx => HC.out x (by rw [hx]; omega))
  clear hw ho HWP
  go_wp2_with fail
  refine (markLog_b t.g a3 a4 c3 c4 l3 u3 (1 + sPg t.pT t.pn + tot t.d) _ HS.out.1.2.2.1.1 HS.out.1.2.2.1.2 (by omega) (by omega) H3.out).mono ?_
  rintro e w3 ⟨rfl, hw, ho⟩
  have HWP : Hid (WritesP (fun x => col x = 3) w2 w3) := WritesP.of hw HG.out.2.1
  have hz3 : w.heap.size < w3.heap.size := by have := hw.size; omega
  replace q6 : w3.cell? ⟨w.heap.size, 6, none⟩ = some (.slice a5 t.hn c5) := (World.cell?_of_block (w := w2) (a := ⟨w.heap.size, 6, none⟩) (HWP.out.block w.heap.size hz2 (HZ.out 3 (by omega)))).trans q6
  replace q7 : w3.cell? ⟨w.heap.size, 7, none⟩ = some (.slice a6 t.on c6) := (World.cell?_of_block (w := w2) (a := ⟨w.heap.size, 7, none⟩) (HWP.out.block w.heap.size hz2 (HZ.out 3 (by omega)))).trans q7
  replace H1 : Hid (OwnPgP w3 (fun x => col x = 1) a0 t.pn (mPg 1 t.pT)) := H1.out.keep HWP.out.size fun x hx hl => HWP.out.block x hl (by show ¬ col x = 3; rw [hx]; omega)
  replace H2 : Hid (OwnD w3 l2 u2 a1 a2 (mD (1 + sPg t.pT t.pn) t.d)) := H2.out.keep HWP.out.size fun x x1 x2 x3 => HWP.out.block x x3 (by show ¬ col x = 3; rw [HG.out.1 x x1 x2]; omega)
  replace H3 : Hid (OwnG w3 l3 u3 a3 a4 (mG (1 + sPg t.pT t.pn + tot t.d) t.g)) := ho
  replace H4 : Hid (Own w3 l4 u4 a5 t.hn t.hK t.hV) := H4.out.keep HWP.out.size fun x x1 x2 x3 => HWP.out.block x x3 (by show ¬ col x = 3; rw [HG.out.2.2.1 x x1 x2]; omega)
  replace H5 : Hid (OwnI w3 l5 u5 a6 t.on t.oF) := H5.out.keep HWP.out.size fun x x1 x2 x3 => HWP.out.block x x3 (by show ¬ col x = 3; rw [HG.out.2.2.2 x x1 x2]; omega)
  replace HWW : Hid (Writes lo hi w w3) := HWW.out.trans (HWP.out.to fun x hx => HC.out x (by rw [hx]; omega))
  clear hw ho HWP
  go_wp2_with fail
  refine (markHeldS_any t.hn t.hK t.hV a5 c5 l4 u4 (1 + sPg t.pT t.pn + tot t.d + (t.g.n1 + t.g.n2 : Nat)) _ (by omega) (by omega) (by omega) H4.out).mono ?_
  rintro e w4 ⟨rfl, hw, ho⟩
  have HWP : Hid (WritesP (fun x => col x = 4) w3 w4) := WritesP.of hw HG.out.2.2.1
  have hz4 : w.heap.size < w4.heap.size := by have := hw.size; omega
  replace q7 : w4.cell? ⟨w.heap.size, 7, none⟩ = some (.slice a6 t.on c6) := (World.cell?_of_block (w := w3) (a := ⟨w.heap.size, 7, none⟩) (HWP.out.block w.heap.size hz3 (HZ.out 4 (by omega)))).trans q7
  replace H1 : Hid (OwnPgP w4 (fun x => col x = 1) a0 t.pn (mPg 1 t.pT)) := H1.out.keep HWP.out.size fun x hx hl => HWP.out.block x hl (by show ¬ col x = 4; rw [hx]; omega)
  replace H2 : Hid (OwnD w4 l2 u2 a1 a2 (mD (1 + sPg t.pT t.pn) t.d)) := H2.out.keep HWP.out.size fun x x1 x2 x3 => HWP.out.block x x3 (by show ¬ col x = 4; rw [HG.out.1 x x1 x2]; omega)
  replace H3 : Hid (OwnG w4 l3 u3 a3 a4 (mG (1 + sPg t.pT t.pn + tot t.d) t.g)) := H3.out.keep HWP.out.size fun x x1 x2 x3 => HWP.out.block x x3 (by show ¬ col x = 4; rw [HG.out.2.1 x x1 x2]; omega)
  replace H4 : Hid (Own w4 l4 u4 a5 t.hn (mK (1 + sPg t.pT t.pn + tot t.d + (t.g.n1 + t.g.n2 : Nat))) (mK (1 + sPg t.pT t.pn + tot t.d + (t.g.n1 + t.g.n2 : Nat) + 1))) := ho
  replace H5 : Hid (OwnI w4 l5 u5 a6 t.on t.oF) := H5.out.keep HWP.out.size fun x x1 x2 x3 => HWP.out.block x x3 (by show ¬ col x = 4; rw [HG.out.2.2.2 x x1 x2]; omega)
  replace HWW : Hid (Writes lo hi w w4) := HWW.out.trans (HWP.out.to fun x hx => HC.out x (by rw [hx]; omega))
  clear hw ho HWP
  go_wp2_with fail
  refine (markInt64S_any t.on t.oF a6 c6 l5 u5 (1 + sPg t.pT t.pn + tot t.d + (t.g.n1 + t.g.n2 : Nat) + t.hn * 2) _ (by omega) (by omega) (by omega) H5.out).mono ?_
  rintro e w5 ⟨rfl, hw, ho⟩
  have HWP : Hid (WritesP (fun x => col x = 5) w4 w5) := WritesP.of hw HG.out.2.2.2
  have hz5 : w.heap.size < w5.heap.size := by have := hw.size; omega
  replace H1 : Hid (OwnPgP w5 (fun x => col x = 1) a0 t.pn (mPg 1 t.pT)) := H1.out.keep HWP.out.size fun x hx hl => HWP.out.block x hl (by show ¬ col x = 5; rw [hx]; omega)
  replace H2 : Hid (OwnD w5 l2 u2 a1 a2 (mD (1 + sPg t.pT t.pn) t.d)) := H2.out.keep HWP.out.size fun x x1 x2 x3 => HWP.out.block x x3 (by show ¬ col x = 5; rw [HG.out.1 x x1 x2]; omega)
  replace H3 : Hid (OwnG w5 l3 u3 a3 a4 (mG (1 + sPg t.pT t.pn + tot t.d) t.g)) := H3.out.keep HWP.out.size fun x x1 x2 x3 => HWP.out.block x x3 (by show ¬ col x = 5; rw [HG.out.2.1 x x1 x2]; omega)
  replace H4 : Hid (Own w5 l4 u4 a5 t.hn (mK (1 + sPg t.pT t.pn + tot t.d + (t.g.n1 + t.g.n2 : Nat))) (mK (1 + sPg t.pT t.pn + tot t.d + (t.g.n1 + t.g.n2 : Nat) + 1))) := H4.out.keep HWP.out.size fun x x1 x2 x3 => HWP.out.block x x3 (by show ¬ col x = 5; rw [HG.out.2.2.1 x x1 x2]; omega)
  replace H5 : Hid (OwnI w5 l5 u5 a6 t.on (ik (1 + sPg t.pT t.pn + tot t.d + (t.g.n1 + t.g.n2 : Nat) + t.hn * 2))) := ho
  replace HWW : Hid (Writes lo hi w w5) := HWW.out.trans (HWP.out.to fun x hx => HC.out x (by rw [hx]; omega))
  clear hw ho HWP
  go_wp2_with fail
  go_ret
  refine ⟨ret_int (by rw [HT.out]; omega), HWW.out, ?_⟩
  exact ⟨by have := HWW.out.size; omega, col, HC.out, H1.out, ⟨l2, u2, HG.out.1, H2.out⟩, ⟨l3, u3, HG.out.2.1, H3.out⟩, ⟨l4, u4, HG.out.2.2.1, H4.out⟩, ⟨l5, u5, HG.out.2.2.2, H5.out⟩⟩
end Go.Proofs.YtaokclhcmgbgnaaGreat
