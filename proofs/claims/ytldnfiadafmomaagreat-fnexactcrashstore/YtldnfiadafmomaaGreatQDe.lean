/- impl.UnpackPage. -/
import Derived.Test.YtldnfiadafmomaaGreatQPut
import Derived.Test.YtldnfiadafmomaaGreatQZpa
import Derived.Laws.BitsLemmas
import Derived.Laws.BytesArg
namespace Go.Proofs.YtldnfiadafmomaaGreat
open Go.RowKit Go.Deep
set_option linter.unusedVariables false
set_option maxRecDepth 20000

theorem eqByteS_q (n : Nat) (z : Nat → Int) (a a' : Option Addr) (cap cap' : Nat) (w : World) (hn : n ≤ 8796093022208) (h : BytesAt w a n z) (h' : BytesAt w a' n z) :
    Calls Tryz.prog 75 #[.slice a n cap, .slice a' n cap'] w fun e w' => e = .returned (.bool true) ∧ ∃ m, w' = w.drewN m := by
  have z0 : ∀ (e : Ending) (w' : World), (e = .returned (.bool true) ∧ w' = w) → e = .returned (.bool true) ∧ ∃ m, w' = w.drewN m := by
    rintro e w' ⟨rfl, rfl⟩
    exact ⟨rfl, 0, rfl⟩
  rcases h with rfl | ⟨b, off, rfl, _, hc⟩
  · exact (eqByteS_zero a a' cap cap' w).mono z0
  · rcases h' with rfl | ⟨b', off', rfl, _, hc'⟩
    · exact (eqByteS_zero _ a' cap cap' w).mono z0
    · exact eqByteS_same n z b off cap b' off' cap' w (by omega) hc hc'
set_option maxHeartbeats 400000 in
theorem eqByteSS_any (n : Nat) (L : Nat → Nat) (Z : Nat → Nat → Int) (a a' : Option Addr) (cap cap' : Nat) (w : World) (hn : n ≤ 1048576) (hL : ∀ i, i < n → L i ≤ 1048576) (h : PagesAt w a n L Z) (h' : PagesAt w a' n L Z) :
    Calls Tryz.prog 73 #[.slice a n cap, .slice a' n cap'] w fun e w' => e = .returned (.bool true) ∧ Below w.heap.size w w' := by
  have HL : Hid (∀ i, i < n → L i ≤ 1048576) := hL
  have HA : Hid (PagesAt w a n L Z) := h
  have HA' : Hid (PagesAt w a' n L Z) := h'
  clear hL h h'
  go_enter Tryz.func73, Tryz.ntmps73
  go_wp2
  go_loopw [5] (fun i wr => ∃ k : Nat, k ≤ n ∧ i = .int .i64 k ∧ Below w.heap.size w wr) (fun i _ => n - (intOf i).toNat)
  case atStart => exact ⟨0, Nat.zero_le _, rfl, Below.refl _ _⟩
  case round =>
    obtain ⟨k, hk0, rfl, hb⟩ := hrel
    by_cases hlt : k < n
    · rcases HA.out.below hb with h | ⟨b, off, rfl, hl, hc⟩
      · omega
      rcases HA'.out.below hb with h | ⟨b', off', rfl, hl', hc'⟩
      · omega
      obtain ⟨ai, ci, h1, hy, -⟩ := hc k hlt
      obtain ⟨ai', ci', h1', hy', -⟩ := hc' k hlt
      have HY : Hid (BytesAt wr ai (L k) (Z k)) := hy
      have HY' : Hid (BytesAt wr ai' (L k) (Z k)) := hy'
      have HLk : Hid (L k ≤ 8796093022208) := Nat.le_trans (HL.out k hlt) (by omega)
      have hlt' : (k : Int) < (n : Int) := by omega
      have HB : Hid (Below w.heap.size w wr) := hb
      clear hc hc' hy hy' hb
      go_wp2
      go_region_held3 (fun w' => w'.cell? ⟨b, off + k, none⟩ = some (.slice ai (L k) ci) ∧ w'.cell? ⟨b', off' + k, none⟩ = some (.slice ai' (L k) ci')) (go_keep)
        (first | (go_at_call 75; refine (eqByteS_q (L k) (Z k) ai ai' ci ci' wr.drew HLk.out HY.out HY'.out).mono ?_; rintro e w' ⟨rfl, m, rfl⟩))
      go_wp2
      go_roundw
      case rel => exact ⟨k + 1, hlt, by go_num, by have hs := HB.out.size; first | exact below_drewN HB.out _ | exact below_drewN HB.out.drew _ | exact (below_drewN HB.out.drew _).drew⟩
      case measure => simp [intOf]; omega
    · have hkn : k = n := by omega
      go_wp2
      go_ret
      exact ⟨rfl, hb⟩
theorem eqLoose_same (p t : Int) (n : Nat) (z : Nat → Int) (a a' : Option Addr) (cap cap' : Nat) (w : World) (hn : n ≤ 8796093022208) (h : BytesAt w a n z) (h' : BytesAt w a' n z) :
    Calls Tryz.prog 105 #[.agg #[.int .i64 p, .int .i64 t, .slice a n cap], .agg #[.int .i64 p, .int .i64 t, .slice a' n cap']] w fun e w' => e = .returned (.bool true) ∧ ∃ c1 c2 : Array Value, ∃ m, w' = ((w.alloc (.cells c1 96)).alloc (.cells c2 96)).drewN m := by
  have HA : Hid (BytesAt w a n z) := h
  have HA' : Hid (BytesAt w a' n z) := h'
  clear h h'
  go_enter Tryz.func105, Tryz.ntmps105
  go_wp2_with fail
  have hb0 : ∀ o1 o2, Below w.heap.size w ((w.alloc o1).alloc o2) := fun o1 o2 => (((Below.refl _ _).alloc (Nat.le_refl _) _).alloc (by simp) _)
  refine (eqByteS_q n z a a' cap cap' _ hn (HA.out.below (hb0 _ _)) (HA'.out.below (hb0 _ _))).mono ?_
  rintro e w' ⟨rfl, m, rfl⟩
  go_wp2_with fail
  go_ret
  exact ⟨rfl, _, _, m, rfl⟩
set_option maxHeartbeats 400000 in
theorem eqLooseS_any (n : Nat) (P T : Nat → Int) (L : Nat → Nat) (Z : Nat → Nat → Int) (a a' : Option Addr) (cap cap' : Nat) (w : World) (hn : n ≤ 1048576) (hL : ∀ i, i < n → L i ≤ 1048576) (h : LoosesAt w a n P T L Z) (h' : LoosesAt w a' n P T L Z) :
    Calls Tryz.prog 74 #[.slice a n cap, .slice a' n cap'] w fun e w' => e = .returned (.bool true) ∧ Below w.heap.size w w' := by
  have HL : Hid (∀ i, i < n → L i ≤ 1048576) := hL
  have HA : Hid (LoosesAt w a n P T L Z) := h
  have HA' : Hid (LoosesAt w a' n P T L Z) := h'
  clear hL h h'
  go_enter Tryz.func74, Tryz.ntmps74
  go_wp2
  go_loopw [5] (fun i wr => ∃ k : Nat, k ≤ n ∧ i = .int .i64 k ∧ Below w.heap.size w wr) (fun i _ => n - (intOf i).toNat)
  case atStart => exact ⟨0, Nat.zero_le _, rfl, Below.refl _ _⟩
  case round =>
    obtain ⟨k, hk0, rfl, hb⟩ := hrel
    by_cases hlt : k < n
    · rcases HA.out.below hb with h | ⟨b, off, rfl, hl, hc⟩
      · omega
      rcases HA'.out.below hb with h | ⟨b', off', rfl, hl', hc'⟩
      · omega
      obtain ⟨p1, t1, ai, ci, h1, hy, -⟩ := hc k hlt
      obtain ⟨p1', t1', ai', ci', h1', hy', -⟩ := hc' k hlt
      have HY : Hid (BytesAt wr ai (L k) (Z k)) := hy
      have HY' : Hid (BytesAt wr ai' (L k) (Z k)) := hy'
      have HLk : Hid (L k ≤ 8796093022208) := Nat.le_trans (HL.out k hlt) (by omega)
      have hlt' : (k : Int) < (n : Int) := by omega
      have HB : Hid (Below w.heap.size w wr) := hb
      clear hc hc' hy hy' hb
      go_wp2
      go_region_held3 (fun w' => w'.cell? ⟨b, off + k * 3, none⟩ = some (.int .i64 (P k)) ∧ w'.cell? ⟨b, off + k * 3 + 1, none⟩ = some (.int .i64 (T k)) ∧ w'.cell? ⟨b, off + k * 3 + 2, none⟩ = some (.slice ai (L k) ci) ∧ w'.cell? ⟨b', off' + k * 3, none⟩ = some (.int .i64 (P k)) ∧ w'.cell? ⟨b', off' + k * 3 + 1, none⟩ = some (.int .i64 (T k)) ∧ w'.cell? ⟨b', off' + k * 3 + 2, none⟩ = some (.slice ai' (L k) ci')) (go_keep)
        (first | (go_at_call 105; refine (eqLoose_same (P k) (T k) (L k) (Z k) ai ai' ci ci' wr.drew HLk.out HY.out HY'.out).mono ?_; rintro e w' ⟨rfl, o1, o2, m, rfl⟩))
      go_wp2
      go_roundw
      case rel => exact ⟨k + 1, hlt, by go_num, by have hs := HB.out.size; repeat (first | exact HB.out | apply Below.drew | (refine below_drewN ?_ _) | refine Below.alloc ?_ (by first | omega | (simp; omega)) _)⟩
      case measure => simp [intOf]; omega
    · have hkn : k = n := by omega
      go_wp2
      go_ret
      exact ⟨rfl, hb⟩
theorem eqDisk_same (D : Dk) (a a' c c' : Option Addr) (cap cap' dap dap' : Nat) (w : World) (hs : Small D) (h : DiskAt w a a' D) (h' : DiskAt w c c' D) :
    Calls Tryz.prog 31 #[.agg #[.slice a D.n cap, .slice a' D.m cap'], .agg #[.slice c D.n dap, .slice c' D.m dap']] w fun e w' => e = .returned (.bool true) ∧ Below w.heap.size w w' := by
  have HS : Hid (Small D) := hs
  obtain ⟨n, L, Z, m, P, T, M, Y⟩ := D
  obtain ⟨h1, h2⟩ := h
  obtain ⟨h3, h4⟩ := h'
  dsimp only at *
  have H1 : Hid (PagesAt w a n L Z) := h1
  have H2 : Hid (LoosesAt w a' m P T M Y) := h2
  have H3 : Hid (PagesAt w c n L Z) := h3
  have H4 : Hid (LoosesAt w c' m P T M Y) := h4
  clear h1 h2 h3 h4 hs
  have hb0 : ∀ o1 o2, Below w.heap.size w ((w.alloc o1).alloc o2) := fun o1 o2 => (((Below.refl _ _).alloc (Nat.le_refl _) _).alloc (by simp) _)
  go_enter Tryz.func31, Tryz.ntmps31
  go_wp2_with fail
  refine (eqByteSS_any n L Z a c cap dap _ HS.out.n HS.out.L (H1.out.below (hb0 _ _)) (H3.out.below (hb0 _ _))).mono ?_
  rintro e w1 ⟨rfl, hb1⟩
  obtain ⟨hc, hf⟩ := bcell hb1
  have q0 : w1.cell? ⟨w.heap.size, 1, none⟩ = some (.slice a' m cap') := by rw [hc _ _ (by simp <;> omega)]; simp [go_sem]
  have q1 : w1.cell? ⟨w.heap.size + 1, 1, none⟩ = some (.slice c' m dap') := by rw [hc _ _ (by simp <;> omega)]; simp [go_sem]
  have HB : Hid (Below w.heap.size w w1) := below_then (hb0 _ _) hb1
  clear hc hf hb1 hb0
  go_wp2_with fail
  refine (eqLooseS_any m P T M Y a' c' cap' dap' _ HS.out.m HS.out.M (H2.out.below HB.out) (H4.out.below HB.out)).mono ?_
  rintro e w2 ⟨rfl, hb2⟩
  go_wp2_with fail
  go_ret
  exact ⟨rfl, below_then HB.out hb2⟩
/-- The number of m bytes from the i-th on, the highest first. -/
def num (z : Nat → Int) (i : Nat) : Nat → Int
  | 0 => 0
  | m + 1 => num z i m * 256 + z (i + m)
theorem num_bd (z : Nat → Int) (i : Nat) : ∀ m, (∀ j, j < m → 0 ≤ z (i + j) ∧ z (i + j) ≤ 255) → 0 ≤ num z i m ∧ num z i m < 256 ^ m
  | 0, _ => by simp [num]
  | m + 1, h => by
    have ih := num_bd z i m fun j hj => h j (by omega)
    have hm := h m (by omega)
    simp only [num, Int.pow_succ]
    omega
theorem or8 (x y : Int) (h0 : 0 ≤ x) (h1 : x ≤ 16777215) (h2 : 0 ≤ y) (h3 : y ≤ 255) : bits .or .u64 (x * 256) y = x * 256 + y :=
  bits_join .u64 40 (by decide) (fun n a c => by rw [IntKind.wrap_u64]; omega) 8 (x * 256) y (by omega) (by omega) (by omega) h2 (by omega) (by omega)
set_option maxHeartbeats 400000 in
theorem readNumber_some (m : Nat) (z : Nat → Int) (b off cap : Nat) (w : World) (hm : m ≤ 4) (hz : ∀ j, j < m → 0 ≤ z j ∧ z j ≤ 255) (hc : ∀ i, i < m → w.cell? ⟨b, off + i, none⟩ = some (.int .u8 (z i))) :
    Calls Tryz.prog 119 #[.slice (some ⟨b, off, none⟩) m cap] w fun e w' => e = .returned (.int .i64 (num z 0 m)) ∧ w' = w := by
  go_enter Tryz.func119, Tryz.ntmps119
  go_wp2
  go_loop [3, 5, 8] (fun h _ i => ∃ k : Nat, k ≤ m ∧ i = .int .i64 k ∧ h = .int .u64 (num z 0 k)) (fun _ _ i => m - (intOf i).toNat)
  case atStart => exact ⟨0, Nat.zero_le _, rfl, rfl⟩
  case round =>
    obtain ⟨k, hk, rfl, rfl⟩ := hrel
    by_cases hlt : k < m
    · have hcell := hc k hlt
      obtain ⟨hz1, hz2⟩ := hz k hlt
      have hb := num_bd z 0 k (fun j hj => by rw [Nat.zero_add]; exact hz j (by omega))
      have hb2 : num z 0 k ≤ 16777215 := by
        have h3 : k = 0 ∨ k = 1 ∨ k = 2 ∨ k = 3 := by omega
        rcases h3 with rfl | rfl | rfl | rfl <;> simp at hb <;> omega
      obtain ⟨hb1, -⟩ := hb
      have HO : Hid (bits .or .u64 (num z 0 k * 256) (z k) = num z 0 k * 256 + z k) := or8 _ _ hb1 hb2 hz1 hz2
      clear hc hz
      go_wp2
      go_round
      case rel => exact ⟨k + 1, hlt, by go_num, by rw [HO.out]; simp [num]⟩
      case measure => simp [intOf]; omega
    · have hkn : k = m := by omega
      have HB : Hid (wrap64 (num z 0 m) = num z 0 m) := by
        have hb := num_bd z 0 m (fun j hj => by rw [Nat.zero_add]; exact hz j (by omega))
        show wrap64 (num z 0 m) = num z 0 m
        unfold wrap64
        have h3 : m = 0 ∨ m = 1 ∨ m = 2 ∨ m = 3 ∨ m = 4 := by omega
        rcases h3 with rfl | rfl | rfl | rfl | rfl <;> simp at hb <;> omega
      clear hc hz
      go_wp2
      go_ret
      exact ⟨ret_int HB.out, rfl⟩
set_option maxHeartbeats 400000 in
theorem l1Take_some (n i m : Nat) (z : Nat → Int) (b off cap : Nat) (w : World) (hm : m ≤ 4) (him : i + m ≤ n) (hn : n ≤ 1000) (hz : Byt n z) (hc : ∀ i, i < n → w.cell? ⟨b, off + i, none⟩ = some (.int .u8 (z i))) :
    Calls Tryz.prog 109 #[.slice (some ⟨b, off, none⟩) n cap, .int .i64 i, .int .i64 m] w fun e w' => e = .returned (.int .i64 (num z i m)) ∧ w' = w := by
  go_enter Tryz.func109, Tryz.ntmps109
  go_wp2
  go_loop [7, 8] (fun h q => ∃ k : Nat, k ≤ m ∧ q = .int .i64 k ∧ h = .int .i64 (num z i k)) (fun _ q => m - (intOf q).toNat)
  case atStart => exact ⟨0, Nat.zero_le _, rfl, rfl⟩
  case round =>
    obtain ⟨k, hk, rfl, rfl⟩ := hrel
    by_cases hlt : k < m
    · have hcell := hc (i + k) (by omega)
      obtain ⟨hz1, hz2⟩ := hz (i + k) (by omega)
      have hb := num_bd z i k (fun j hj => hz (i + j) (by omega))
      have hb2 : num z i k ≤ 16777215 := by
        have h3 : k = 0 ∨ k = 1 ∨ k = 2 ∨ k = 3 := by omega
        rcases h3 with rfl | rfl | rfl | rfl <;> simp at hb <;> omega
      obtain ⟨hb1, -⟩ := hb
      have hik : ((i : Int) + (k : Int)) < (n : Int) := by omega
      have hik2 : ((i : Int) + (k : Int)).toNat = i + k := by omega
      clear hc hz
      go_wp2
      go_round
      case rel => exact ⟨k + 1, hlt, by go_num, by simp [num]⟩
      case measure => simp [intOf]; omega
    · have hkn : k = m := by omega
      clear hc hz
      go_wp2
      go_ret
      exact ⟨rfl, rfl⟩
/-! ### bytes as a string -/
theorem str_inj {xs ys : List Int} (hx : ∀ z ∈ xs, 0 ≤ z ∧ z ≤ 255) (hy : ∀ z ∈ ys, 0 ≤ z ∧ z ≤ 255) (h : (strOfNums xs).toList = (strOfNums ys).toList) : xs = ys := by
  have e1 : ∀ (l : List Int), (strOfNums l).data.toList = l.map fun n => UInt8.ofNat n.toNat := fun l => by simp [strOfNums]
  have e2 : ∀ (s : ByteArray), s.toList = s.data.toList := fun s => by exact ByteArray.toList_eq _
  rw [e2, e2, e1, e1] at h
  have back : ∀ (l : List Int), (∀ z ∈ l, 0 ≤ z ∧ z ≤ 255) → (l.map fun n => UInt8.ofNat n.toNat).map (fun b => (b.toNat : Int)) = l := fun l hl => by
    rw [List.map_map]
    conv => rhs; rw [← List.map_id l]
    apply List.map_congr_left
    intro z hz
    have := hl z hz
    simp
    omega
  rw [← back xs hx, h, back ys hy]
theorem equal_some (xs ys : List Int) (b off cap b' off' cap' : Nat) (w : World) (hx : ∀ z ∈ xs, 0 ≤ z ∧ z ≤ 255) (hy : ∀ z ∈ ys, 0 ≤ z ∧ z ≤ 255)
    (hc : ∀ i, i < xs.length → w.cell? ⟨b, off + i, none⟩ = some (.int .u8 (xs.getD i 0))) (hc' : ∀ i, i < ys.length → w.cell? ⟨b', off' + i, none⟩ = some (.int .u8 (ys.getD i 0))) :
    Calls Tryz.prog 118 #[.slice (some ⟨b, off, none⟩) xs.length cap, .slice (some ⟨b', off', none⟩) ys.length cap'] w fun e w' => e = .returned (.bool (decide (xs = ys))) ∧ w' = w := by
  have h1 := run_convert_bytes_arg (P := Tryz.prog) w 27 5 Tryz.underlying27 Tryz.underlying5 b off xs.length cap xs rfl hc 9 Tryz.underlying9
  have h2 := run_convert_bytes_arg (P := Tryz.prog) w 27 5 Tryz.underlying27 Tryz.underlying5 b' off' ys.length cap' ys rfl hc' 9 Tryz.underlying9
  have HE : Hid (((strOfNums xs).toList == (strOfNums ys).toList) = decide (xs = ys)) := by
    show ((strOfNums xs).toList == (strOfNums ys).toList) = decide (xs = ys)
    by_cases e : xs = ys
    · subst e; simp
    · have : ¬ (strOfNums xs).toList = (strOfNums ys).toList := fun h => e (str_inj hx hy h)
      simp [e, this]
  clear hc hc' hx hy
  go_enter Tryz.func118, Tryz.ntmps118
  go_wp2
  go_ret
  exact ⟨ret_bool HE.out, rfl⟩
theorem num_shift (z : Nat → Int) (lo : Nat) : ∀ m, num (fun j => z (lo + j)) 0 m = num z lo m
  | 0 => rfl
  | m + 1 => by simp only [num, num_shift z lo m, Nat.zero_add]
theorem readNum (lo m : Nat) (z : Nat → Int) (b off cap : Nat) (w : World) (hm : m ≤ 4) (hz : ∀ j, j < m → 0 ≤ z (lo + j) ∧ z (lo + j) ≤ 255) (hc : ∀ i, i < m → w.cell? ⟨b, off + i, none⟩ = some (.int .u8 (z (lo + i)))) :
    Calls Tryz.prog 119 #[.slice (some ⟨b, off, none⟩) m cap] w fun e w' => e = .returned (.int .i64 (num z lo m)) ∧ w' = w := by
  have h := readNumber_some m (fun j => z (lo + j)) b off cap w hm hz hc
  rw [num_shift] at h
  exact h
/-- So many bytes from a place on. -/
def BA (w : World) (b off n : Nat) (z : Nat → Int) : Prop := ∀ i, i < n → w.cell? ⟨b, off + i, none⟩ = some (.int .u8 (z i))
theorem BA.alloc {w : World} {b off n : Nat} {z : Nat → Int} (h : BA w b off n z) (o : Obj) : BA (w.alloc o) b off n z := fun i hi => cell_alloc (h i hi) o
theorem BA.below {w w' : World} {b off n : Nat} {z : Nat → Int} (h : BA w b off n z) (hb : Below w.heap.size w w') : BA w' b off n z := fun i hi => cell_below (h i hi) hb
theorem readNumG {off m cap : Nat} (z : Nat → Int) (b o n : Nat) (w : World) (h : BA w b o n z) (hz : Byt n z) (hm : m ≤ 4) (ho : o ≤ off) (ho2 : off + m ≤ o + n) :
    Calls Tryz.prog 119 #[.slice (some ⟨b, off, none⟩) m cap] w fun e w' => e = .returned (.int .i64 (num z (off - o) m)) ∧ w' = w :=
  readNum (off - o) m z b off cap w hm (fun j hj => hz _ (by omega)) fun i hi => by
    have := h (off - o + i) (by omega)
    rwa [show o + (off - o + i) = off + i by omega] at this
def zL (z : Nat → Int) (n : Nat) : List Int := (List.range n).map z
theorem zL_len (z : Nat → Int) (n : Nat) : (zL z n).length = n := by simp [zL]
theorem zL_get (z : Nat → Int) (n i : Nat) (h : i < n) : (zL z n).getD i 0 = z i := by simp [zL, h]
theorem zL_byt {z : Nat → Int} {n : Nat} (h : Byt n z) : ∀ x ∈ zL z n, 0 ≤ x ∧ x ≤ 255 := fun x hx => by
  simp only [zL, List.mem_map, List.mem_range] at hx
  obtain ⟨i, hi, rfl⟩ := hx
  exact h i hi
end Go.Proofs.YtldnfiadafmomaaGreat
