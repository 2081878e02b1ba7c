/- impl.UnpackPage. -/
import Derived.Test.YtnplheilojhpmaaGreatQFind
import Derived.Test.YtnplheilojhpmaaGreatQFault
import Derived.Deep.RegionLaw
import Derived.Laws.BitsLemmas
import Derived.Laws.BytesArg
namespace Go.Proofs.YtnplheilojhpmaaGreat
open Go.RowKit Go.Deep
set_option linter.unusedVariables false
set_option maxRecDepth 20000

/-- The maker's cell holds a slice that owns the bytes zs. -/
def MK (w : World) (C base : Nat) (v : Value) (zs : List Int) : Prop := w.cell? ⟨C, 0, none⟩ = some v ∧ w.frozen? ⟨C, 0, none⟩ = false ∧ w.ownsRow base 5 1 v zs.length (bl zs)
/-- What was there is as it was, but for the maker's cell and its row. -/
structure Upd (C : Nat) (v : Value) (w w' : World) : Prop where
  os : w'.os = w.os
  tape : w'.tape = w.tape
  output : w'.output = w.output
  size : w.heap.size ≤ w'.heap.size
  block : ∀ k, k < w.heap.size → k ≠ C → v.ownBlock ≠ some k → w'.heap[k]? = w.heap[k]?
def Lies (w : World) (v v' : Value) : Prop := v'.ownBlock = v.ownBlock ∨ ∃ g, w.heap.size ≤ g ∧ v'.ownBlock = some g
theorem Upd.refl (C : Nat) (v : Value) (w : World) : Upd C v w w := ⟨rfl, rfl, rfl, Nat.le_refl _, fun _ _ _ _ => rfl⟩
theorem Upd.trans {C : Nat} {v v1 : Value} {w w1 w2 : World} (h : Upd C v w w1) (l : Lies w v v1) (k : Upd C v1 w1 w2) : Upd C v w w2 := by
  refine ⟨k.os.trans h.os, k.tape.trans h.tape, k.output.trans h.output, Nat.le_trans h.size k.size, fun i hi hC hv => ?_⟩
  refine (k.block i (Nat.lt_of_lt_of_le hi h.size) hC ?_).trans (h.block i hi hC hv)
  rcases l with l | ⟨g, hg, l⟩
  · rw [l]; exact hv
  · rw [l]; intro e; simp at e; omega
theorem Lies.trans {w w1 : World} {v v1 v2 : Value} (h : Lies w v v1) (hs : w.heap.size ≤ w1.heap.size) (k : Lies w1 v1 v2) : Lies w v v2 := by
  rcases k with k | ⟨g, hg, k⟩
  · rcases h with h | ⟨g, hg, h⟩
    · exact .inl (k.trans h)
    · exact .inr ⟨g, hg, k.trans h⟩
  · exact .inr ⟨g, by omega, k⟩
theorem slice_of_own {w : World} {base n : Nat} {v : Value} {xs : List Value} (h : w.ownsRow base 5 1 v n xs) : ∃ a cap, v = .slice a n cap ∧ n ≤ cap + 0 := by
  rcases h.2 with ⟨rfl, h0⟩ | ⟨g, cap, cur, rfl, _, _, hnc, _⟩
  · exact ⟨none, 0, by rw [h0], by omega⟩
  · exact ⟨_, cap, rfl, by omega⟩
/-- One byte appended through the maker's cell. -/
theorem mk_step {wr w1 : World} {C base g cap2 : Nat} {v : Value} {Z : List Int} {z : Int} {c : Array Value} (hC : C < base) (hB : base ≤ wr.heap.size) (hm : MK wr C base v Z)
    (h1 : w1.ownsRow base 5 1 (.slice (some ⟨g, 0, none⟩) (Z.length + 1) cap2) (Z.length + 1) (bl Z ++ [.int .u8 z])) (hg : (wr.alloc (.cells c 5)).drew.grownBy w1 v.ownBlock) (hat : v.ownBlock = some g ∨ g = wr.heap.size + 1) :
    MK (w1.setCell ⟨C, 0, none⟩ (.slice (some ⟨g, 0, none⟩) (Z.length + 1) cap2)) C base (.slice (some ⟨g, 0, none⟩) (Z.length + 1) cap2) (Z ++ [z]) ∧ Upd C v wr (w1.setCell ⟨C, 0, none⟩ (.slice (some ⟨g, 0, none⟩) (Z.length + 1) cap2)) ∧ Lies wr v (.slice (some ⟨g, 0, none⟩) (Z.length + 1) cap2) := by
  obtain ⟨m1, m2, m3⟩ := hm
  have hlt : C < (wr.alloc (.cells c 5)).drew.heap.size := by show C < (wr.alloc (.cells c 5)).heap.size; rw [World.size_alloc]; omega
  have hne : some C ≠ v.ownBlock := fun e => by have := (m3.lt C e.symm).1; omega
  have hblk : ∀ k, k < wr.heap.size → v.ownBlock ≠ some k → w1.heap[k]? = wr.heap[k]? := fun k hk hv => by
    rw [hg.block k (by show k < (wr.alloc (.cells c 5)).heap.size; rw [World.size_alloc]; omega) (fun e => hv e.symm)]
    exact Below.heap_alloc _ _ _ hk
  have hcell : w1.cell? ⟨C, 0, none⟩ = some v := (World.cell?_of_block (w := wr) (a := ⟨C, 0, none⟩) (hblk C (by omega) (fun e => hne e.symm))).trans m1
  have hfz : w1.frozen? ⟨C, 0, none⟩ = false := (World.frozen?_of_block (w := wr) (a := ⟨C, 0, none⟩) (hblk C (by omega) (fun e => hne e.symm))).trans m2
  have hsz : wr.heap.size ≤ w1.heap.size := by have := hg.size; simp at this; omega
  refine ⟨⟨?_, ?_, ?_⟩, ⟨?_, ?_, ?_, ?_, ?_⟩, ?_⟩
  · exact World.cell?_setCell_same _ _ _ hcell
  · show (w1.setCell ⟨C, 0, none⟩ _).frozen? ⟨C, 0, none⟩ = false
    rw [World.frozen?_setCell]; exact hfz
  · rw [List.length_append, bl_app]
    exact ownsRow_setCell_below (a := ⟨C, 0, none⟩) h1 hC _
  · exact hg.os
  · exact hg.tape
  · exact hg.output
  · show wr.heap.size ≤ (w1.setCell ⟨C, 0, none⟩ _).heap.size
    simpa [World.setCell] using hsz
  · intro k hk hkC hv
    show (w1.setCell ⟨C, 0, none⟩ _).heap[k]? = _
    rw [Below.heap_setCell _ _ _ _ hkC]
    exact hblk k hk hv
  · rcases hat with h | h
    · exact .inl h.symm
    · exact .inr ⟨g, by omega, rfl⟩
theorem cell_C {wr w1 : World} {C base : Nat} {v : Value} {Z : List Int} {c : Array Value} (hC : C < base) (hB : base ≤ wr.heap.size) (hm : MK wr C base v Z) (hg : (wr.alloc (.cells c 5)).drew.grownBy w1 v.ownBlock) :
    w1.cell? ⟨C, 0, none⟩ = some v ∧ w1.frozen? ⟨C, 0, none⟩ = false := by
  obtain ⟨m1, m2, m3⟩ := hm
  have hne : some C ≠ v.ownBlock := fun e => by have := (m3.lt C e.symm).1; omega
  have hblk : w1.heap[C]? = wr.heap[C]? := by
    rw [hg.block C (by show C < (wr.alloc (.cells c 5)).heap.size; rw [World.size_alloc]; omega) hne]
    exact Below.heap_alloc _ _ _ (by omega)
  exact ⟨(World.cell?_of_block (w := wr) (a := ⟨C, 0, none⟩) hblk).trans m1, (World.frozen?_of_block (w := wr) (a := ⟨C, 0, none⟩) hblk).trans m2⟩

theorem one_u8 (z : Int) : ∀ u ∈ [Value.int .u8 z], u.oneCell' = true := by intro u hu; simp at hu; subst hu; rfl
theorem le_max {n : Nat} (h : n ≤ 1004) : n + 1 ≤ maxLen := by unfold maxLen; omega
theorem le_by {n : Nat} (h : n ≤ 1004) : (n + 1) * 1 ≤ 140737488355328 := by omega
theorem le_al {w : World} {o : Obj} {b : Nat} (h : b ≤ w.heap.size) : b ≤ (w.alloc o).drew.heap.size := by show b ≤ (w.alloc o).heap.size; rw [World.size_alloc]; omega
set_option maxHeartbeats 2000000 in
theorem putNumber_any (C base : Nat) (x : Int) (width : Nat) (v : Value) (zs : List Int) (w : World) (hs : width ≤ 4) (hx : 0 ≤ x) (hx2 : x ≤ 1000000) (hz : zs.length ≤ 1000) (hC : C < base) (hB : base ≤ w.heap.size) (hm : MK w C base v zs) :
    Calls Tryz.prog 139 #[.pointer (some ⟨C, 0, none⟩), .int .i64 x, .int .i64 width] w fun e w' => e = .returned (.tuple #[]) ∧ ∃ v', MK w' C base v' (zs ++ nb x width) ∧ Upd C v w w' ∧ Lies w v v' := by
  obtain ⟨i0, hi, hz0, hz1, hz2⟩ := info_parts info5
  have HI : Hid (Tryz.prog.info? 5 = some i0 ∧ i0.zero = some (.int .u8 0) ∧ i0.size = 1 ∧ i0.bytes = 1) := ⟨hi, hz0, hz1, hz2⟩
  have HM0 : Hid (MK w C base v zs) := hm
  have HCB : Hid (C < base ∧ base ≤ w.heap.size) := ⟨hC, hB⟩
  have hwx : IntKind.u64.wrap x = x := by rw [IntKind.wrap_u64]; omega
  clear hi hz0 hz1 hz2 hm hC hB
  go_enter Tryz.func139, Tryz.ntmps139
  go_wp2
  go_loopw [7] (fun i wr => ∃ j : Nat, j ≤ width ∧ i = .int .i64 (8 * ((j : Int) - 1)) ∧ ∃ T v', Hid (T ++ nb x j = nb x width) ∧ Hid (MK wr C base v' (zs ++ T)) ∧ Hid (Upd C v w wr) ∧ Hid (Lies w v v')) (fun i _ => (intOf i + 8).toNat)
  case atStart => exact ⟨width, Nat.le_refl _, by go_num, [], v, rfl, by rw [List.append_nil]; exact HM0, Upd.refl _ _ _, .inl rfl⟩
  case round =>
    obtain ⟨j, hj, rfl, T, v', HT, HM, HU, HL⟩ := hrel
    rcases Nat.eq_zero_or_pos j with rfl | hp
    · go_wp2
      go_end0
      refine ⟨rfl, v', ?_, HU.out, HL.out⟩
      have h := HT.out
      rw [nb, List.append_nil] at h
      rw [← h]
      exact HM.out
    · obtain ⟨k, rfl⟩ : ∃ k, j = k + 1 := ⟨j - 1, by omega⟩
      have hk : (k : Int) ≤ 3 := by omega
      obtain ⟨a, cap, rfl, -⟩ := slice_of_own HM.out.2.2
      have hc0 := HM.out.1
      have hc1 : ∀ o : Obj, (wr.alloc o).cell? ⟨C, 0, none⟩ = some (.slice a (zs ++ T).length cap) := fun o => cell_alloc hc0 o
      have HTL : Hid (T.length + (k + 1) = width) := by have := congrArg List.length HT.out; rw [List.length_append, nb_len, nb_len] at this; exact this
      have HZL : Hid ((zs ++ T).length ≤ 1004) := by have := HTL.out; show (zs ++ T).length ≤ 1004; rw [List.length_append]; omega
      generalize hZ : zs ++ T = Z at *
      have HZ : Hid (zs ++ T = Z) := hZ
      clear hZ
      have HBW : Hid (base ≤ wr.heap.size) := Nat.le_trans HCB.out.2 HU.out.size
      go_wp2
      go_region_law ((refine step_append_lies (P := Tryz.prog) (wr.alloc (.cells #[.int .u8 (x / 2 ^ (8 * k) % 256)] 5)).drew rfl (.tmp 20) (.tmp 25) 172 rfl base 5 i0 (.int .u8 0) 1 1 Tryz.underlying172 HI.out.1 HI.out.2.1 HI.out.2.2.1 HI.out.2.2.2 rfl (by decide) (.slice a Z.length cap) Z.length (bl Z) rfl (HM.out.2.2.alloc _) ⟨wr.heap.size, 0, none⟩ 1 1 [.int .u8 (x / 2 ^ (8 * k) % 256)] rfl rfl (cell_one_new _ _ _) (one_u8 _) (by decide) (le_max HZL.out) (le_by HZL.out) (le_al HBW.out) (wr.heap.size + 1) (World.size_alloc _ _) ?_; intro g cap2 w1 hown1 hgrow hat hlt; obtain ⟨kc, kf⟩ := cell_C HCB.out.1 HBW.out HM.out hgrow))
      all_goals
        have HR : Hid _ := mk_step HCB.out.1 HBW.out HM.out hown1 hgrow hat
        go_wp2
        go_roundw
        case rel => exact ⟨k, by omega, by go_num, T ++ [byt x k], _, by show T ++ [byt x k] ++ nb x k = nb x width; rw [← HT.out]; simp [nb], by show MK _ C base _ (zs ++ (T ++ [byt x k])); rw [← List.append_assoc, HZ.out]; exact HR.out.1, HU.out.trans HL.out HR.out.2.1, HL.out.trans HU.out.size HR.out.2.2⟩
        case measure => simp [intOf]; omega
theorem bytes_of_own {w : World} {base : Nat} {a : Option Addr} {cap : Nat} {zs : List Int} (h : w.ownsRow base 5 1 (.slice a zs.length cap) zs.length (bl zs)) : BytesAt w a zs.length (fun i => zs.getD i 0) := by
  rcases h.2 with ⟨_, h0⟩ | ⟨g, cap2, cur, e, hbg, hg, hnc, hcm, hcs, htake⟩
  · exact .inl h0
  · simp only [Value.slice.injEq] at e
    obtain ⟨rfl, -, rfl⟩ := e
    refine .inr ⟨g, 0, rfl, ?_, fun i hi => ?_⟩
    · obtain ⟨hlt, _⟩ := Array.getElem?_eq_some_iff.1 hg
      exact hlt
    · have := h.cellAt i (by omega)
      rw [Nat.zero_add, this]
      simp [bl, hi]
def sm (zs : List Int) : Int := sumB (fun i => zs.getD i 0) zs.length
def BytL (zs : List Int) : Prop := ∀ z ∈ zs, 0 ≤ z ∧ z ≤ 255
theorem byt_of {zs : List Int} (h : BytL zs) : Byt zs.length (fun i => zs.getD i 0) := fun i hi => by
  have : zs.getD i 0 = zs[i] := by simp [hi]
  show 0 ≤ zs.getD i 0 ∧ zs.getD i 0 ≤ 255
  rw [this]; exact h _ (List.getElem_mem hi)
set_option maxHeartbeats 2000000 in
theorem putSum_any (C base : Nat) (v : Value) (zs : List Int) (w : World) (hz : zs.length ≤ 1000) (hby : BytL zs) (hC : C < base) (hB : base ≤ w.heap.size) (hm : MK w C base v zs) :
    Calls Tryz.prog 137 #[.pointer (some ⟨C, 0, none⟩)] w fun e w' => e = .returned (.tuple #[]) ∧ ∃ v', MK w' C base v' (zs ++ nb (sm zs) 2) ∧ Upd C v w w' ∧ Lies w v v' := by
  obtain ⟨a, cap, rfl, -⟩ := slice_of_own hm.2.2
  have hc0 := hm.1
  have hsb := sumB_bd (fun i => zs.getD i 0) zs.length
  have HM : Hid (MK w C base (.slice a zs.length cap) zs) := hm
  have HS : Hid (0 ≤ sm zs ∧ sm zs ≤ 65520) := hsb
  clear hm hsb
  go_enter Tryz.func137, Tryz.ntmps137
  go_wp2_with fail
  refine (implSum_any zs.length (fun i => zs.getD i 0) a cap w (by omega) (byt_of hby) (bytes_of_own HM.out.2.2)).mono ?_
  rintro e w1 ⟨rfl, rfl⟩
  go_wp2_with fail
  refine (putNumber_any C base (sm zs) 2 _ zs _ (by omega) HS.out.1 (by have := HS.out.2; omega) hz hC hB HM.out).mono ?_
  rintro e w2 ⟨rfl, v', hm', hu', hl'⟩
  go_wp2_with fail
  go_end0
  exact ⟨rfl, v', hm', hu', hl'⟩
theorem own_far {w : World} {base n k : Nat} {v : Value} {xs : List Value} (h : w.ownsRow base 5 1 v n xs) (hk : k < base) : v.ownBlock ≠ some k := fun e => by have := (h.lt k e).1; omega
theorem own_lt {w : World} {base n k : Nat} {v : Value} {xs : List Value} (h : w.ownsRow base 5 1 v n xs) (hk : w.heap.size ≤ k) : v.ownBlock ≠ some k := fun e => by have := (h.lt k e).2; omega
/-- The bytes of the first k cells. -/
def cb (K V : Nat → Int) : Nat → List Int
  | 0 => []
  | k + 1 => cb K V k ++ nb (K k) 1 ++ nb (V k) 2
theorem cb_len (K V : Nat → Int) : ∀ k, (cb K V k).length = 3 * k
  | 0 => rfl
  | k + 1 => by simp [cb, cb_len K V k, nb_len]; omega
def hd (idn lsn : Int) (n : Nat) : List Int := nb idn 1 ++ nb lsn 4 ++ nb (n : Int) 1
theorem nb_byt (x : Int) : ∀ s, BytL (nb x s)
  | 0 => fun z hz => by simp [nb] at hz
  | s + 1 => fun z hz => by
    simp only [nb, List.mem_cons] at hz
    rcases hz with rfl | hz
    · exact byt_bd x s
    · exact nb_byt x s z hz
theorem BytL.app {a b : List Int} (h : BytL a) (k : BytL b) : BytL (a ++ b) := fun z hz => by
  rcases List.mem_append.1 hz with hz | hz
  · exact h z hz
  · exact k z hz
/-- m cells from the i-th on. -/
def lst (K V : Nat → Int) (i m : Nat) : List (Int × Int) := (List.range m).map fun q => (K (i + q), V (i + q))
/-- Where the key's cell goes, and where the rest begins. -/
def nx (K : Nat → Int) (key : Int) (n : Nat) : Nat := if has K key n = true then pl K key n + 1 else pl K key n
def wi (K V : Nat → Int) (key val : Int) (n : Nat) : List (Int × Int) := lst K V 0 (pl K key n) ++ [(key, val)] ++ lst K V (nx K key n) (n - nx K key n)
/-- Bytes in a block from lo on, below hi, that may be written. -/
def OwnB (w : World) (lo hi : Nat) (a : Option Addr) (n : Nat) (z : Nat → Int) : Prop :=
  hi ≤ w.heap.size ∧ (n = 0 ∨ ∃ g off, a = some ⟨g, off, none⟩ ∧ lo ≤ g ∧ g < hi ∧ (∀ i, i < n → w.cell? ⟨g, off + i, none⟩ = some (.int .u8 (z i))) ∧ (∀ i, i < n → w.frozen? ⟨g, off + i, none⟩ = false))
theorem OwnB.at {w : World} {lo hi : Nat} {a : Option Addr} {n : Nat} {z : Nat → Int} (h : OwnB w lo hi a n z) : BytesAt w a n z := by
  obtain ⟨h0, h1 | ⟨g, off, ha, _, hl, hc, _⟩⟩ := h
  · exact .inl h1
  · exact .inr ⟨g, off, ha, by omega, hc⟩
theorem OwnB.writes {w w' : World} {lo hi lo' hi' : Nat} {a : Option Addr} {n : Nat} {z : Nat → Int} (h : OwnB w lo hi a n z) (hw : Writes lo' hi' w w') (hd : hi ≤ lo' ∨ hi' ≤ lo) : OwnB w' lo hi a n z := by
  obtain ⟨h0, h1 | ⟨g, off, ha, h2, hl, hc, hf⟩⟩ := h
  · exact ⟨Nat.le_trans h0 hw.size, .inl h1⟩
  · have hb := hw.block g (by omega) (by omega)
    exact ⟨Nat.le_trans h0 hw.size, .inr ⟨g, off, ha, h2, hl, fun i hi => (World.cell?_of_block (w := w) (a := ⟨g, _, none⟩) hb).trans (hc i hi), fun i hi => (World.frozen?_of_block (w := w) (a := ⟨g, _, none⟩) hb).trans (hf i hi)⟩⟩
theorem OwnB.below {w w' : World} {lo hi : Nat} {a : Option Addr} {n : Nat} {z : Nat → Int} (h : OwnB w lo hi a n z) (hb : Below w.heap.size w w') : OwnB w' lo hi a n z :=
  h.writes (Writes.of_below (lo := hi) (hi := hi) hb) (.inl (Nat.le_refl _))
theorem OwnB.wide {w : World} {lo hi lo' hi' : Nat} {a : Option Addr} {n : Nat} {z : Nat → Int} (h : OwnB w lo hi a n z) (h1 : lo' ≤ lo) (h2 : hi ≤ hi') (h3 : hi' ≤ w.heap.size) : OwnB w lo' hi' a n z := by
  obtain ⟨h0, h4 | ⟨g, off, ha, h5, hl, r⟩⟩ := h
  · exact ⟨h3, .inl h4⟩
  · exact ⟨h3, .inr ⟨g, off, ha, by omega, by omega, r⟩⟩
def zOf (zs : List Int) (i : Nat) : Int := zs.getD i 0
theorem ownB_of_row {w : World} {base : Nat} {v : Value} {zs : List Int} (h : w.ownsRow base 5 1 v zs.length (bl zs)) : ∃ a cap, v = .slice a zs.length cap ∧ OwnB w base w.heap.size a zs.length (zOf zs) := by
  rcases h.2 with ⟨rfl, h0⟩ | ⟨g, cap, cur, rfl, hbg, hg, hnc, hcm, hcs, htake⟩
  · exact ⟨none, 0, by rw [h0], Nat.le_refl _, .inl h0⟩
  · have hlt : g < w.heap.size := by
      obtain ⟨hlt, _⟩ := Array.getElem?_eq_some_iff.1 hg
      exact hlt
    refine ⟨some ⟨g, 0, none⟩, cap, rfl, Nat.le_refl _, .inr ⟨g, 0, rfl, hbg, hlt, fun i hi => ?_, fun i hi => h.frozenAt _⟩⟩
    have := h.cellAt i (by omega)
    rw [Nat.zero_add, this]
    simp [bl, hi, zOf]
def BRes2 (c : Int) (zs : List Int) (w : World) (e : Ending) (w' : World) : Prop :=
  ∃ a cap, e = .returned (.agg #[.int .i64 c, .slice a (if c = 0 then zs else []).length cap]) ∧ Below w.heap.size w w' ∧ OwnB w' w.heap.size w'.heap.size a (if c = 0 then zs else []).length (zOf (if c = 0 then zs else [])) ∧ (if c = 0 then zs else []).length ≤ cap
theorem bres2_bad {c : Int} {zs : List Int} {w w' : World} (hb : Below w.heap.size w w') (hc : c ≠ 0) : BRes2 c zs w (.returned (.agg #[.int .i64 c, .slice none 0 0])) w' := by
  rw [BRes2]
  simp only [if_neg hc]
  exact ⟨none, 0, rfl, hb, ⟨Nat.le_refl _, .inl rfl⟩, Nat.le_refl _⟩
theorem bres2_ok {x : Int} {zs : List Int} {w wq w' : World} {a : Option Addr} {cap lo : Nat} (E : Hid (x = 0)) (hB : Below w.heap.size w wq) (hlo : w.heap.size + 2 ≤ lo)
    (ho : OwnB wq lo wq.heap.size a zs.length (zOf zs)) (hw : Writes (w.heap.size + 1) (w.heap.size + 2) wq w') (hs : w'.heap.size = wq.heap.size) (hcp : zs.length ≤ cap) :
    BRes2 x zs w (.returned (.agg #[.int .i64 0, .slice a zs.length cap])) w' := by
  rw [BRes2, E.out]
  simp only [if_true]
  have hb : Below w.heap.size w w' := Writes.below hB hw (by omega)
  refine ⟨a, cap, rfl, hb, ?_, hcp⟩
  rw [hs]
  exact OwnB.wide (OwnB.writes ho hw (.inr (by omega))) (by omega) (Nat.le_refl _) (by omega)
theorem own_cap {w : World} {base : Nat} {a : Option Addr} {n cap : Nat} {xs : List Value} (h : w.ownsRow base 5 1 (.slice a n cap) n xs) : n ≤ cap := by
  rcases h.2 with ⟨e, h0⟩ | ⟨_, _, _, e, _, _, h9, _⟩
  · omega
  · simp only [Value.slice.injEq] at e
    omega
theorem step_appB {ops : Array Oper} {o : Oper} {a : Act} {K : Act → World → Prop} {Q : Exit → Act → World → Prop} {E : Prop} (w : World) (hgd : o.guard = none) (s x : Operand)
    (ho : o.op = .call { callee := .builtin .append, args := #[s, x], argTypes := #[27, 27] })
    (base : Nat) (v : Value) (n : Nat) (xs : List Value) (hs : a.eval s = v) (hown : w.ownsRow base 5 1 v n xs)
    (ad : Addr) (m c : Nat) (news : List Value) (hx : a.eval x = .slice (some ad) m c) (hl : news.length = m) (hnews : ∀ j u, news[j]? = some u → w.cell? (ad.add j) = some u) (h1 : ∀ u ∈ news, u.oneCell' = true)
    (h63 : n + m ≤ 100000) (hbase : base ≤ w.heap.size)
    (h : ∀ v' w', w'.ownsRow base 5 1 v' (n + m) (xs ++ news) → w.grownBy w' v.ownBlock → K (a.put o.dst v') w') :
    if Region.wanted o (yielded ops a.tmps) = true then Oper.wp Tryz.prog o a w K Q else E := by
  have hw : Region.wanted o (yielded ops a.tmps) = true := by simp [Region.wanted, hgd]
  rw [if_pos hw]
  obtain ⟨i0, hi, hz0, hz1, hz2⟩ := info_parts info5
  exact wp_append_own w s x 27 ho base 5 i0 _ 1 1 Tryz.underlying27 hi hz0 hz1 hz2 rfl (by decide) v n xs hs hown ad m c news hx (by omega) hnews h1 (by unfold maxLen; omega) (by omega) hbase fun v' w' h2 h3 _ => h v' w' h2 h3
theorem formB {w : World} {base n : Nat} {v : Value} {xs : List Value} (h : w.ownsRow base 5 1 v n xs) (hne : v ≠ .slice none 0 0) : ∃ g cap, v = .slice (some ⟨g, 0, none⟩) n cap ∧ base ≤ g ∧ g < w.heap.size := by
  rcases h.2 with ⟨rfl, h0⟩ | ⟨g, cap, cur, rfl, hb, hg, _⟩
  · exact absurd rfl hne
  · exact ⟨g, cap, rfl, hb, by obtain ⟨hlt, _⟩ := Array.getElem?_eq_some_iff.1 hg; exact hlt⟩
theorem keepB {w W : World} {o o2 : Obj} (h : Below (w.heap.size + 1) (w.alloc o) W.drew) : Below (w.heap.size + 1) (w.alloc o) (W.alloc o2).drew :=
  (Below.alloc (w := W) ⟨h.os, h.tape, h.output, h.size, h.block⟩ (by have := h.size; rw [World.size_alloc] at this; exact this) o2).drew
theorem keepB' {w W : World} {o o2 : Obj} (h : Below (w.heap.size + 1) (w.alloc o) W) : Below (w.heap.size + 1) (w.alloc o) (W.alloc o2) :=
  h.alloc (by have := h.size; rw [World.size_alloc] at this; exact this) o2
theorem hszB {w W : World} {o : Obj} (h : Below (w.heap.size + 1) (w.alloc o) W) : w.heap.size + 1 ≤ W.heap.size := by have := h.size; rw [World.size_alloc] at this; exact this
theorem belB {w W wq : World} {o : Obj} (h : Below (w.heap.size + 1) (w.alloc o) W) (hq : Below W.heap.size W wq) : Below (w.heap.size + 1) (w.alloc o) wq := h.trans (hq.mono (hszB h))
theorem grB {w W wa : World} {o : Obj} {v : Value} {n : Nat} {xs : List Value} (h : Below (w.heap.size + 1) (w.alloc o) W) (ho : W.ownsRow (w.heap.size + 1) 5 1 v n xs) (hg : W.grownBy wa v.ownBlock) : Below (w.heap.size + 1) (w.alloc o) wa :=
  h.grown hg (hszB h) fun q hq => (ho.lt q hq).1
theorem rowB_below {W wq : World} {B n : Nat} {v : Value} {xs : List Value} (h : W.ownsRow B 5 1 v n xs) (hb : Below W.heap.size W wq) : wq.ownsRow B 5 1 v n xs := by
  refine ⟨h.1, ?_⟩
  rcases h.2 with h2 | ⟨g, cap, cur, hv, hbg, hg, r⟩
  · exact .inl h2
  · have hlt : g < W.heap.size := by obtain ⟨hlt, _⟩ := Array.getElem?_eq_some_iff.1 hg; exact hlt
    exact .inr ⟨g, cap, cur, hv, hbg, (hb.block g hlt).trans hg, r⟩
theorem own8a (w : World) (o : Obj) (x : Value) : ((w.alloc o).alloc (.cells #[x] 5)).drew.ownsRow (w.heap.size + 1) 5 1 (.slice (some ⟨w.heap.size + 1, 0, none⟩) 1 1) 1 [x] := by
  have h := World.ownsRow_lit (base := w.heap.size + 1) (size := 1) (e := 5) (w.alloc o) #[x] 1 (by simp) (by unfold maxLen; omega) rfl
  rw [World.size_alloc] at h
  exact h
theorem own8b {B : Nat} {w : World} {x : Value} (hB : B ≤ w.heap.size) : (w.alloc (.cells #[x] 5)).ownsRow B 5 1 (.slice (some ⟨w.heap.size, 0, none⟩) 1 1) 1 [x] := World.ownsRow_lit w #[x] 1 hB (by unfold maxLen; omega) rfl
theorem newsB {W : World} {B n g cap : Nat} {xs : List Value} (h : W.ownsRow B 5 1 (.slice (some ⟨g, 0, none⟩) n cap) n xs) : ∀ j u, xs[j]? = some u → W.cell? ((⟨g, 0, none⟩ : Addr).add j) = some u := h.cells rfl
theorem newsB_alloc {W : World} {B n g cap : Nat} {xs : List Value} {o : Obj} (h : W.ownsRow B 5 1 (.slice (some ⟨g, 0, none⟩) n cap) n xs) : ∀ j u, xs[j]? = some u → (W.alloc o).cell? ((⟨g, 0, none⟩ : Addr).add j) = some u := (h.alloc o).cells rfl
theorem cellsq2 {w W wq : World} {o : Obj} {B i j : Nat} {x y : Value} (h : Below (w.heap.size + 1) (w.alloc o) W ∧ W.cell? ⟨B, i, none⟩ = some x ∧ W.cell? ⟨B, j, none⟩ = some y) (hq : Below W.heap.size W wq) :
    Below (w.heap.size + 1) (w.alloc o) wq ∧ wq.cell? ⟨B, i, none⟩ = some x ∧ wq.cell? ⟨B, j, none⟩ = some y := ⟨belB h.1 hq, cell_below h.2.1 hq, cell_below h.2.2 hq⟩
theorem cellsg {w W wa : World} {o : Obj} {i j : Nat} {x y v : Value} {n : Nat} {xs : List Value} (h : Below (w.heap.size + 1) (w.alloc o) W ∧ W.cell? ⟨w.heap.size, i, none⟩ = some x ∧ W.cell? ⟨w.heap.size, j, none⟩ = some y) (ho : W.ownsRow (w.heap.size + 1) 5 1 v n xs) (hg : W.grownBy wa v.ownBlock) :
    Below (w.heap.size + 1) (w.alloc o) wa ∧ wa.cell? ⟨w.heap.size, i, none⟩ = some x ∧ wa.cell? ⟨w.heap.size, j, none⟩ = some y := by
  have hb := hg.block w.heap.size (by have := hszB h.1; omega) (fun e => by have := (ho.lt _ e.symm).1; omega)
  exact ⟨grB h.1 ho hg, (World.cell?_of_block (w := W) (a := ⟨w.heap.size, i, none⟩) hb).trans h.2.1, (World.cell?_of_block (w := W) (a := ⟨w.heap.size, j, none⟩) hb).trans h.2.2⟩
theorem rowB_down {w : World} {B B' : Nat} {v : Value} {n : Nat} {xs : List Value} (h : w.ownsRow B 5 1 v n xs) (hb : B' ≤ B) : w.ownsRow B' 5 1 v n xs := by
  refine ⟨h.1, ?_⟩
  rcases h.2 with h2 | ⟨g, cap, cur, hv, hg, r⟩
  · exact .inl h2
  · exact .inr ⟨g, cap, cur, hv, by omega, r⟩
theorem nb_bl2 (x : Int) : (bl (nb x 2)).length = 2 := by rw [bl_len, nb_len]
theorem byt_small {x : Int} (h0 : 0 ≤ x) (h1 : x ≤ 255) : nb x 1 = [x] := by simp only [nb, byt]; congr 1; simp; omega
def bk (m : Int) (i : Nat) : Int := (m + i) % 256
def mkb (m : Int) (z : Nat → Int) (j i : Nat) : Int := if i < j then bk m i else z i
def Row1 (w : World) (b off n : Nat) (z : Nat → Int) : Prop := (∀ i, i < n → w.cell? ⟨b, off + i, none⟩ = some (.int .u8 (z i))) ∧ (∀ i, i < n → w.frozen? ⟨b, off + i, none⟩ = false)
theorem row1_step {w : World} {b off n k : Nat} {z : Nat → Int} {m : Int} (hlt : k < n) (h : Row1 w b off n (mkb m z k)) : Row1 (w.setCell ⟨b, off + k, none⟩ (.int .u8 ((m + k) % 256))) b off n (mkb m z (k + 1)) := by
  obtain ⟨hc, hf⟩ := h
  refine ⟨fun i hi => ?_, fun i hi => ?_⟩
  · by_cases e : i = k
    · subst e; rw [setS (hc i hi)]; simp [mkb, bk]
    · rw [setO (by omega), hc i hi]
      have : (i < k + 1) ↔ (i < k) := by omega
      simp only [mkb, this]
  · rw [World.frozen?_setCell]; exact hf i hi
set_option maxHeartbeats 400000 in
theorem markByteS_some (n : Nat) (z : Nat → Int) (b off cap lo hi : Nat) (m : Int) (w : World) (hn : n ≤ 8796093022208) (hm1 : 0 ≤ m) (hm2 : m ≤ 8796093022208) (hlo : lo ≤ b) (hhi : b < hi) (hr : Row1 w b off n z) :
    Calls Tryz.prog 76 #[.slice (some ⟨b, off, none⟩) n cap, .int .i64 m] w fun e w' =>
      e = .returned (.int .i64 (m + n)) ∧ Writes lo hi w w' ∧ Row1 w' b off n (mkb m z n) := by
  go_enter Tryz.func76, Tryz.ntmps76
  go_wp2
  go_loopw [1, 5] (fun q i wr => ∃ k : Nat, k ≤ n ∧ i = .int .i64 k ∧ q = .int .i64 (m + k) ∧ Writes lo hi w wr ∧ Row1 wr b off n (mkb m z k)) (fun _ i _ => n - (intOf i).toNat)
  case atStart => exact ⟨0, Nat.zero_le _, rfl, by go_num, Writes.refl _ _ _, ⟨fun i h => by rw [hr.1 i h]; simp [mkb], hr.2⟩⟩
  case round =>
    obtain ⟨k, hk0, rfl, rfl, hb, hrow⟩ := hrel
    by_cases hlt : k < n
    · have h1 := hrow.1 k hlt
      have h3 := hrow.2 k hlt
      have hw : IntKind.u8.wrap (m + k) = (m + k) % 256 := by rw [IntKind.wrap_u8]
      generalize mkb m z k k = x1 at h1
      have HR : Hid (Row1 wr b off n (mkb m z k)) := hrow
      have HB : Hid (Writes lo hi w wr) := hb
      clear hr hrow hb
      go_wp2
      go_roundw
      case rel => exact ⟨k + 1, hlt, by go_num, by go_num, HB.out.setCell (p := ⟨b, _, none⟩) hlo hhi _, row1_step hlt HR.out⟩
      case measure => simp [intOf]; omega
    · have hkn : k = n := by omega
      have HR : Hid (Row1 wr b off n (mkb m z n)) := by have h := hrow; rw [hkn] at h; exact h
      clear hr hrow
      go_wp2
      go_ret
      exact ⟨ret_int (by rw [hkn]), hb, HR.out⟩
theorem markByteS_zero (a : Option Addr) (cap : Nat) (m : Int) (w : World) : Calls Tryz.prog 76 #[.slice a 0 cap, .int .i64 m] w fun e w' => e = .returned (.int .i64 m) ∧ w' = w := by
  go_enter Tryz.func76, Tryz.ntmps76
  go_wp2
  go_loop [1, 5] (fun q i => q = .int .i64 m ∧ i = .int .i64 0) (fun _ _ => 0)
  case atStart => exact ⟨rfl, rfl⟩
  case round =>
    obtain ⟨rfl, rfl⟩ := hrel
    go_wp2
    go_ret
    exact ⟨rfl, rfl⟩
theorem markByteS_any (n : Nat) (z : Nat → Int) (a : Option Addr) (cap lo hi : Nat) (m : Int) (w : World) (hn : n ≤ 8796093022208) (hm1 : 0 ≤ m) (hm2 : m ≤ 8796093022208) (h : OwnB w lo hi a n z) :
    Calls Tryz.prog 76 #[.slice a n cap, .int .i64 m] w fun e w' => e = .returned (.int .i64 (m + n)) ∧ Writes lo hi w w' ∧ OwnB w' lo hi a n (bk m) := by
  obtain ⟨h0, rfl | ⟨b, off, rfl, hlo, hhi, hr⟩⟩ := h
  · refine (markByteS_zero a cap m w).mono ?_
    rintro e w' ⟨rfl, rfl⟩
    exact ⟨ret_int (by omega), Writes.refl _ _ _, h0, .inl rfl⟩
  · refine (markByteS_some n z b off cap lo hi m w hn hm1 hm2 hlo hhi hr).mono ?_
    rintro e w' ⟨rfl, hw, h1, h2⟩
    exact ⟨rfl, hw, Nat.le_trans h0 hw.size, .inr ⟨b, off, rfl, hlo, hhi, fun i hi => by rw [h1 i hi]; simp [mkb, hi], h2⟩⟩
theorem eqByteS_zero (a a' : Option Addr) (cap cap' : Nat) (w : World) : Calls Tryz.prog 71 #[.slice a 0 cap, .slice a' 0 cap'] w fun e w' => e = .returned (.bool true) ∧ w' = w := by
  go_enter Tryz.func71, Tryz.ntmps71
  go_wp2
  go_loop [5] (fun i => i = .int .i64 0) (fun _ => 0)
  case atStart => exact rfl
  case round =>
    obtain rfl := hrel
    go_wp2
    go_ret
    exact ⟨rfl, rfl⟩
theorem eqByteS_any (n : Nat) (z : Nat → Int) (a a' : Option Addr) (cap cap' : Nat) (w : World) (hn : n ≤ 8796093022208) (h : BytesAt w a n z) (h' : BytesAt w a' n z) :
    Calls Tryz.prog 71 #[.slice a n cap, .slice a' n cap'] w fun e w' => e = .returned (.bool true) ∧ Below w.heap.size w w' := by
  have z0 : ∀ (e : Ending) (w' : World), (e = .returned (.bool true) ∧ w' = w) → e = .returned (.bool true) ∧ Below w.heap.size w w' := by
    rintro e w' ⟨rfl, rfl⟩
    exact ⟨rfl, Below.refl _ _⟩
  rcases h with rfl | ⟨b, off, rfl, _, hc⟩
  · exact (eqByteS_zero a a' cap cap' w).mono z0
  · rcases h' with rfl | ⟨b', off', rfl, _, hc'⟩
    · exact (eqByteS_zero _ a' cap cap' w).mono z0
    · refine (eqByteS_same n z b off cap b' off' cap' w (by omega) hc hc').mono ?_
      rintro e w' ⟨rfl, m, rfl⟩
      exact ⟨rfl, below_drewN (Below.refl _ _) _⟩
/-- The number of m bytes from the i-th on, the highest first. -/
def num (z : Nat → Int) (i : Nat) : Nat → Int
  | 0 => 0
  | m + 1 => num z i m * 256 + z (i + m)
theorem num_bd (z : Nat → Int) (i : Nat) : ∀ m, (∀ j, j < m → 0 ≤ z (i + j) ∧ z (i + j) ≤ 255) → 0 ≤ num z i m ∧ num z i m < 256 ^ m
  | 0, _ => by simp [num]
  | m + 1, h => by
    have ih := num_bd z i m fun j hj => h j (by omega)
    have hm := h m (by omega)
    simp only [num, Int.pow_succ]
    omega
theorem or8 (x y : Int) (h0 : 0 ≤ x) (h1 : x ≤ 16777215) (h2 : 0 ≤ y) (h3 : y ≤ 255) : bits .or .u64 (x * 256) y = x * 256 + y :=
  bits_join .u64 40 (by decide) (fun n a c => by rw [IntKind.wrap_u64]; omega) 8 (x * 256) y (by omega) (by omega) (by omega) h2 (by omega) (by omega)
set_option maxHeartbeats 400000 in
theorem readNumber_some (m : Nat) (z : Nat → Int) (b off cap : Nat) (w : World) (hm : m ≤ 4) (hz : ∀ j, j < m → 0 ≤ z j ∧ z j ≤ 255) (hc : ∀ i, i < m → w.cell? ⟨b, off + i, none⟩ = some (.int .u8 (z i))) :
    Calls Tryz.prog 121 #[.slice (some ⟨b, off, none⟩) m cap] w fun e w' => e = .returned (.int .i64 (num z 0 m)) ∧ w' = w := by
  go_enter Tryz.func121, Tryz.ntmps121
  go_wp2
  go_loop [3, 5, 8] (fun h _ i => ∃ k : Nat, k ≤ m ∧ i = .int .i64 k ∧ h = .int .u64 (num z 0 k)) (fun _ _ i => m - (intOf i).toNat)
  case atStart => exact ⟨0, Nat.zero_le _, rfl, rfl⟩
  case round =>
    obtain ⟨k, hk, rfl, rfl⟩ := hrel
    by_cases hlt : k < m
    · have hcell := hc k hlt
      obtain ⟨hz1, hz2⟩ := hz k hlt
      have hb := num_bd z 0 k (fun j hj => by rw [Nat.zero_add]; exact hz j (by omega))
      have hb2 : num z 0 k ≤ 16777215 := by
        have h3 : k = 0 ∨ k = 1 ∨ k = 2 ∨ k = 3 := by omega
        rcases h3 with rfl | rfl | rfl | rfl <;> simp at hb <;> omega
      obtain ⟨hb1, -⟩ := hb
      have HO : Hid (bits .or .u64 (num z 0 k * 256) (z k) = num z 0 k * 256 + z k) := or8 _ _ hb1 hb2 hz1 hz2
      clear hc hz
      go_wp2
      go_round
      case rel => exact ⟨k + 1, hlt, by go_num, by rw [HO.out]; simp [num]⟩
      case measure => simp [intOf]; omega
    · have hkn : k = m := by omega
      have HB : Hid (wrap64 (num z 0 m) = num z 0 m) := by
        have hb := num_bd z 0 m (fun j hj => by rw [Nat.zero_add]; exact hz j (by omega))
        show wrap64 (num z 0 m) = num z 0 m
        unfold wrap64
        have h3 : m = 0 ∨ m = 1 ∨ m = 2 ∨ m = 3 ∨ m = 4 := by omega
        rcases h3 with rfl | rfl | rfl | rfl | rfl <;> simp at hb <;> omega
      clear hc hz
      go_wp2
      go_ret
      exact ⟨ret_int HB.out, rfl⟩
set_option maxHeartbeats 400000 in
theorem l1Take_some (n i m : Nat) (z : Nat → Int) (b off cap : Nat) (w : World) (hm : m ≤ 4) (him : i + m ≤ n) (hn : n ≤ 1000) (hz : Byt n z) (hc : ∀ i, i < n → w.cell? ⟨b, off + i, none⟩ = some (.int .u8 (z i))) :
    Calls Tryz.prog 50 #[.slice (some ⟨b, off, none⟩) n cap, .int .i64 i, .int .i64 m] w fun e w' => e = .returned (.int .i64 (num z i m)) ∧ w' = w := by
  go_enter Tryz.func50, Tryz.ntmps50
  go_wp2
  go_loop [7, 8] (fun h q => ∃ k : Nat, k ≤ m ∧ q = .int .i64 k ∧ h = .int .i64 (num z i k)) (fun _ q => m - (intOf q).toNat)
  case atStart => exact ⟨0, Nat.zero_le _, rfl, rfl⟩
  case round =>
    obtain ⟨k, hk, rfl, rfl⟩ := hrel
    by_cases hlt : k < m
    · have hcell := hc (i + k) (by omega)
      obtain ⟨hz1, hz2⟩ := hz (i + k) (by omega)
      have hb := num_bd z i k (fun j hj => hz (i + j) (by omega))
      have hb2 : num z i k ≤ 16777215 := by
        have h3 : k = 0 ∨ k = 1 ∨ k = 2 ∨ k = 3 := by omega
        rcases h3 with rfl | rfl | rfl | rfl <;> simp at hb <;> omega
      obtain ⟨hb1, -⟩ := hb
      have hik : ((i : Int) + (k : Int)) < (n : Int) := by omega
      have hik2 : ((i : Int) + (k : Int)).toNat = i + k := by omega
      clear hc hz
      go_wp2
      go_round
      case rel => exact ⟨k + 1, hlt, by go_num, by simp [num]⟩
      case measure => simp [intOf]; omega
    · have hkn : k = m := by omega
      clear hc hz
      go_wp2
      go_ret
      exact ⟨rfl, rfl⟩
/-! ### bytes as a string -/
theorem str_inj {xs ys : List Int} (hx : ∀ z ∈ xs, 0 ≤ z ∧ z ≤ 255) (hy : ∀ z ∈ ys, 0 ≤ z ∧ z ≤ 255) (h : (strOfNums xs).toList = (strOfNums ys).toList) : xs = ys := by
  have e1 : ∀ (l : List Int), (strOfNums l).data.toList = l.map fun n => UInt8.ofNat n.toNat := fun l => by simp [strOfNums]
  have e2 : ∀ (s : ByteArray), s.toList = s.data.toList := fun s => by exact ByteArray.toList_eq _
  rw [e2, e2, e1, e1] at h
  have back : ∀ (l : List Int), (∀ z ∈ l, 0 ≤ z ∧ z ≤ 255) → (l.map fun n => UInt8.ofNat n.toNat).map (fun b => (b.toNat : Int)) = l := fun l hl => by
    rw [List.map_map]
    conv => rhs; rw [← List.map_id l]
    apply List.map_congr_left
    intro z hz
    have := hl z hz
    simp
    omega
  rw [← back xs hx, h, back ys hy]
theorem equal_some (xs ys : List Int) (b off cap b' off' cap' : Nat) (w : World) (hx : ∀ z ∈ xs, 0 ≤ z ∧ z ≤ 255) (hy : ∀ z ∈ ys, 0 ≤ z ∧ z ≤ 255)
    (hc : ∀ i, i < xs.length → w.cell? ⟨b, off + i, none⟩ = some (.int .u8 (xs.getD i 0))) (hc' : ∀ i, i < ys.length → w.cell? ⟨b', off' + i, none⟩ = some (.int .u8 (ys.getD i 0))) :
    Calls Tryz.prog 120 #[.slice (some ⟨b, off, none⟩) xs.length cap, .slice (some ⟨b', off', none⟩) ys.length cap'] w fun e w' => e = .returned (.bool (decide (xs = ys))) ∧ w' = w := by
  have h1 := run_convert_bytes_arg (P := Tryz.prog) w 27 5 Tryz.underlying27 Tryz.underlying5 b off xs.length cap xs rfl hc 9 Tryz.underlying9
  have h2 := run_convert_bytes_arg (P := Tryz.prog) w 27 5 Tryz.underlying27 Tryz.underlying5 b' off' ys.length cap' ys rfl hc' 9 Tryz.underlying9
  have HE : Hid (((strOfNums xs).toList == (strOfNums ys).toList) = decide (xs = ys)) := by
    show ((strOfNums xs).toList == (strOfNums ys).toList) = decide (xs = ys)
    by_cases e : xs = ys
    · subst e; simp
    · have : ¬ (strOfNums xs).toList = (strOfNums ys).toList := fun h => e (str_inj hx hy h)
      simp [e, this]
  clear hc hc' hx hy
  go_enter Tryz.func120, Tryz.ntmps120
  go_wp2
  go_ret
  exact ⟨ret_bool HE.out, rfl⟩
theorem num_shift (z : Nat → Int) (lo : Nat) : ∀ m, num (fun j => z (lo + j)) 0 m = num z lo m
  | 0 => rfl
  | m + 1 => by simp only [num, num_shift z lo m, Nat.zero_add]
theorem readNum (lo m : Nat) (z : Nat → Int) (b off cap : Nat) (w : World) (hm : m ≤ 4) (hz : ∀ j, j < m → 0 ≤ z (lo + j) ∧ z (lo + j) ≤ 255) (hc : ∀ i, i < m → w.cell? ⟨b, off + i, none⟩ = some (.int .u8 (z (lo + i)))) :
    Calls Tryz.prog 121 #[.slice (some ⟨b, off, none⟩) m cap] w fun e w' => e = .returned (.int .i64 (num z lo m)) ∧ w' = w := by
  have h := readNumber_some m (fun j => z (lo + j)) b off cap w hm hz hc
  rw [num_shift] at h
  exact h
/-- So many bytes from a place on. -/
def BA (w : World) (b off n : Nat) (z : Nat → Int) : Prop := ∀ i, i < n → w.cell? ⟨b, off + i, none⟩ = some (.int .u8 (z i))
theorem BA.alloc {w : World} {b off n : Nat} {z : Nat → Int} (h : BA w b off n z) (o : Obj) : BA (w.alloc o) b off n z := fun i hi => cell_alloc (h i hi) o
theorem BA.below {w w' : World} {b off n : Nat} {z : Nat → Int} (h : BA w b off n z) (hb : Below w.heap.size w w') : BA w' b off n z := fun i hi => cell_below (h i hi) hb
theorem readNumG {off m cap : Nat} (z : Nat → Int) (b o n : Nat) (w : World) (h : BA w b o n z) (hz : Byt n z) (hm : m ≤ 4) (ho : o ≤ off) (ho2 : off + m ≤ o + n) :
    Calls Tryz.prog 121 #[.slice (some ⟨b, off, none⟩) m cap] w fun e w' => e = .returned (.int .i64 (num z (off - o) m)) ∧ w' = w :=
  readNum (off - o) m z b off cap w hm (fun j hj => hz _ (by omega)) fun i hi => by
    have := h (off - o + i) (by omega)
    rwa [show o + (off - o + i) = off + i by omega] at this
def zL (z : Nat → Int) (n : Nat) : List Int := (List.range n).map z
theorem zL_len (z : Nat → Int) (n : Nat) : (zL z n).length = n := by simp [zL]
theorem zL_get (z : Nat → Int) (n i : Nat) (h : i < n) : (zL z n).getD i 0 = z i := by simp [zL, h]
theorem zL_byt {z : Nat → Int} {n : Nat} (h : Byt n z) : ∀ x ∈ zL z n, 0 ≤ x ∧ x ≤ 255 := fun x hx => by
  simp only [zL, List.mem_map, List.mem_range] at hx
  obtain ⟨i, hi, rfl⟩ := hx
  exact h i hi
end Go.Proofs.YtnplheilojhpmaaGreat
