/- putPage: the walk. -/
import Derived.Test.YtnhkjdcbaphfcaaFil
namespace Go.Proofs.Ytnhkjdcbaphfcaa
open Go.RowKit Go.Deep
set_option linter.unusedVariables false

/-- Where putPage stands: the maker's bytes, the page's box, and that nothing older but the maker's cell has turned. -/
structure St (w : World) (C : Nat) (idn lsn : Int) (sl : Value) (wi : World) (v : Value) (zs : List Int) : Prop where
  mkr : MK wi C (w.heap.size + 1) v zs
  box : Box3 wi w.heap.size (.int .i64 idn) (.int .i64 lsn) sl
  os : wi.os = w.os
  tape : wi.tape = w.tape
  output : wi.output = w.output
  hsz : w.heap.size + 1 ≤ wi.heap.size
  block : ∀ k, k < w.heap.size → k ≠ C → wi.heap[k]? = w.heap[k]?
theorem own_far {w : World} {base n k : Nat} {v : Value} {xs : List Value} (h : w.ownsRow base 5 1 v n xs) (hk : k < base) : v.ownBlock ≠ some k := fun e => by have := (h.lt k e).1; omega
theorem own_lt {w : World} {base n k : Nat} {v : Value} {xs : List Value} (h : w.ownsRow base 5 1 v n xs) (hk : w.heap.size ≤ k) : v.ownBlock ≠ some k := fun e => by have := (h.lt k e).2; omega
theorem St.step {w wi wj : World} {C : Nat} {idn lsn : Int} {sl v v' : Value} {zs zs' : List Int} (h : St w C idn lsn sl wi v zs) (hC : C < w.heap.size) (hm : MK wj C (w.heap.size + 1) v' zs') (hu : Upd C v wi.drew wj) : St w C idn lsn sl wj v' zs' := by
  have hb := fun k (hk : k < wi.heap.size) (hkC : k ≠ C) (hv : v.ownBlock ≠ some k) => hu.block k hk hkC hv
  have hB := hb w.heap.size (by have := h.hsz; omega) (by omega) (own_far h.mkr.2.2 (by omega))
  refine ⟨hm, ⟨?_, ?_, ?_⟩, hu.os.trans h.os, hu.tape.trans h.tape, hu.output.trans h.output, Nat.le_trans h.hsz hu.size, fun k hk hkC => (hb k (by have := h.hsz; omega) hkC (own_far h.mkr.2.2 (by omega))).trans (h.block k hk hkC)⟩
  · exact (World.cell?_of_block (w := wi) (a := ⟨w.heap.size, 0, none⟩) hB).trans h.box.1
  · exact (World.cell?_of_block (w := wi) (a := ⟨w.heap.size, 1, none⟩) hB).trans h.box.2.1
  · exact (World.cell?_of_block (w := wi) (a := ⟨w.heap.size, 2, none⟩) hB).trans h.box.2.2
theorem St.alloc {w wi : World} {C : Nat} {idn lsn : Int} {sl v : Value} {zs : List Int} (h : St w C idn lsn sl wi v zs) (hC : C < w.heap.size) (o : Array Value) (t : TypeId) : St w C idn lsn sl (wi.alloc (.cells o t)) v zs := by
  refine ⟨⟨cell_alloc h.mkr.1 _, ?_, h.mkr.2.2.alloc _⟩, h.box.alloc _, h.os, h.tape, h.output, by have := h.hsz; rw [World.size_alloc]; omega, fun k hk hkC => (Below.heap_alloc _ _ _ (by have := h.hsz; omega)).trans (h.block k hk hkC)⟩
  rw [frozen?_alloc_cells]; exact h.mkr.2.1
/-- The bytes of the first k cells. -/
def cb (K V : Nat → Int) : Nat → List Int
  | 0 => []
  | k + 1 => cb K V k ++ nb (K k) 1 ++ nb (V k) 2
theorem cb_len (K V : Nat → Int) : ∀ k, (cb K V k).length = 3 * k
  | 0 => rfl
  | k + 1 => by simp [cb, cb_len K V k, nb_len]; omega
def hd (idn lsn : Int) (n : Nat) : List Int := nb idn 1 ++ nb lsn 4 ++ nb (n : Int) 1
theorem hd_len (idn lsn : Int) (n : Nat) : (hd idn lsn n).length = 6 := by simp [hd, nb_len]
def bdy (idn lsn : Int) (n : Nat) (K V : Nat → Int) : List Int := hd idn lsn n ++ cb K V n
def fld (idn lsn : Int) (n : Nat) (K V : Nat → Int) : List Int := bdy idn lsn n K V ++ List.replicate (46 - (bdy idn lsn n K V).length) 0
def pgb (idn lsn : Int) (n : Nat) (K V : Nat → Int) : List Int := fld idn lsn n K V ++ nb (sm (fld idn lsn n K V)) 2
theorem nb_byt (x : Int) : ∀ s, BytL (nb x s)
  | 0 => fun z hz => by simp [nb] at hz
  | s + 1 => fun z hz => by
    simp only [nb, List.mem_cons] at hz
    rcases hz with rfl | hz
    · exact byt_bd x s
    · exact nb_byt x s z hz
theorem BytL.app {a b : List Int} (h : BytL a) (k : BytL b) : BytL (a ++ b) := fun z hz => by
  rcases List.mem_append.1 hz with hz | hz
  · exact h z hz
  · exact k z hz
theorem cb_byt (K V : Nat → Int) : ∀ k, BytL (cb K V k)
  | 0 => fun z hz => by simp [cb] at hz
  | k + 1 => ((cb_byt K V k).app (nb_byt _ _)).app (nb_byt _ _)
theorem fld_byt (idn lsn : Int) (n : Nat) (K V : Nat → Int) : BytL (fld idn lsn n K V) :=
  ((((nb_byt _ _).app (nb_byt _ _)).app (nb_byt _ _)).app (cb_byt K V n)).app fun z hz => by rw [List.eq_of_mem_replicate hz]; omega

theorem cbox1 {wr wA : World} {C base : Nat} {v : Value} {Z : List Int} {x y : Value} (hm : MK wr C base v Z) (hC : C < wr.heap.size) (hu : Upd C v (wr.alloc (.cells #[x, y] 45)).drew wA) :
    wA.cell? ⟨wr.heap.size, 0, none⟩ = some x ∧ wA.cell? ⟨wr.heap.size, 1, none⟩ = some y := by
  have hb := hu.block wr.heap.size (by show wr.heap.size < (wr.alloc (.cells #[x, y] 45)).heap.size; rw [World.size_alloc]; omega) (by omega) (own_lt hm.2.2 (Nat.le_refl _))
  have h2 := Box2.new wr x y 45
  exact ⟨(World.cell?_of_block (w := wr.alloc (.cells #[x, y] 45)) (a := ⟨wr.heap.size, 0, none⟩) hb).trans h2.1, (World.cell?_of_block (w := wr.alloc (.cells #[x, y] 45)) (a := ⟨wr.heap.size, 1, none⟩) hb).trans h2.2⟩
theorem cbox2 {wr wA wB : World} {C base : Nat} {v vA : Value} {Z : List Int} {o : Obj} {x y : Value} (hm : MK wr C base v Z) (hC : C < wr.heap.size) (hl : Lies (wr.alloc o).drew v vA) (hlt : wr.heap.size < wA.heap.size) (hu : Upd C vA wA.drew wB)
    (h0 : wA.cell? ⟨wr.heap.size, 0, none⟩ = some x) (h1 : wA.cell? ⟨wr.heap.size, 1, none⟩ = some y) : wB.cell? ⟨wr.heap.size, 0, none⟩ = some x ∧ wB.cell? ⟨wr.heap.size, 1, none⟩ = some y := by
  have hne : vA.ownBlock ≠ some wr.heap.size := by
    rcases hl with hl | ⟨g, hg, hl⟩
    · rw [hl]; exact own_lt hm.2.2 (Nat.le_refl _)
    · rw [hl]
      have hg' : (wr.alloc o).heap.size ≤ g := hg
      rw [World.size_alloc] at hg'
      intro e; simp at e; omega
  have hb := hu.block wr.heap.size hlt (by omega) hne
  exact ⟨(World.cell?_of_block (w := wA) (a := ⟨wr.heap.size, 0, none⟩) hb).trans h0, (World.cell?_of_block (w := wA) (a := ⟨wr.heap.size, 1, none⟩) hb).trans h1⟩

set_option maxHeartbeats 4000000 in
theorem putPage_any (C : Nat) (idn lsn : Int) (n : Nat) (K V : Nat → Int) (a : Option Addr) (cap : Nat) (w : World) (g : GoodP idn lsn n K V) (hC : C < w.heap.size) (hA : CellsAt w a n K V) (hbC : ∀ b o, a = some ⟨b, o, none⟩ → n = 0 ∨ b ≠ C)
    (hm : MK w C (w.heap.size + 1) (.slice none 0 0) []) :
    Calls Try.prog 35 #[.pointer (some ⟨C, 0, none⟩), .agg #[.int .i64 idn, .int .i64 lsn, (.slice a n cap)]] w fun e w' => e = .returned (.tuple #[]) ∧ ∃ v', MK w' C (w.heap.size + 1) v' (pgb idn lsn n K V) ∧
      (w'.os = w.os ∧ w'.tape = w.tape ∧ w'.output = w.output ∧ w.heap.size ≤ w'.heap.size ∧ ∀ k, k < w.heap.size → k ≠ C → w'.heap[k]? = w.heap[k]?) := by
  have HG : Hid (GoodP idn lsn n K V) := g
  have hi1 := inB_iff.1 g.gid
  have hi2 := inB_iff.1 g.glsn
  have hn12 := g.gn
  obtain ⟨hi1a, hi1b⟩ := hi1
  obtain ⟨hi2a, hi2b⟩ := hi2
  have B1 : Hid (0 ≤ idn ∧ idn ≤ 1000000) := ⟨hi1a, by omega⟩
  have B2 : Hid (0 ≤ lsn ∧ lsn ≤ 1000000) := ⟨hi2a, hi2b⟩
  have B3 : Hid (0 ≤ (n : Int) ∧ (n : Int) ≤ 1000000) := ⟨by omega, by omega⟩
  have HCB : Hid (C < (w.heap.size + 1)) := by show C < (w.heap.size + 1); omega
  have HCw : Hid (C < w.heap.size) := hC
  have ST0 : Hid (St w C idn lsn (.slice a n cap) (w.alloc (.cells #[.int .i64 idn, .int .i64 lsn, (.slice a n cap)] 27)) (.slice none 0 0) []) :=
    ⟨⟨cell_alloc hm.1 _, by rw [frozen?_alloc_cells]; exact hm.2.1, World.ownsRow_nil _ _ _ _⟩, Box3.new _ _ _ _ _, rfl, rfl, rfl, by rw [World.size_alloc]; exact Nat.le_refl _, fun k hk _ => Below.heap_alloc _ _ _ hk⟩
  have HSRC : Hid (∀ b o, a = some ⟨b, o, none⟩ → n = 0 ∨ b ≠ C) := hbC
  have HK : Hid (CellsAt w a n K V) := hA
  have HZ1 : Hid (([] : List Int).length ≤ 1000) := by show ([] : List Int).length ≤ 1000; simp
  have HZ2 : Hid (([] ++ nb idn 1).length ≤ 1000) := by show ([] ++ nb idn 1).length ≤ 1000; simp [nb_len]
  have HZ3 : Hid (([] ++ nb idn 1 ++ nb lsn 4).length ≤ 1000) := by show ([] ++ nb idn 1 ++ nb lsn 4).length ≤ 1000; simp [nb_len]
  clear g hm hA hbC hC
  go_enter Try.func35, Try.ntmps35
  go_wp2
  go_region_held3 (fun w' => w'.cell? ⟨w.heap.size, 0, none⟩ = some (.int .i64 idn) ∧ w'.cell? ⟨w.heap.size, 1, none⟩ = some (.int .i64 lsn) ∧ w'.cell? ⟨w.heap.size, 2, none⟩ = some (.slice a n cap)) (go_keep)
    (first | (go_at_call 64; have HH := putNumber_any C (w.heap.size + 1) idn 1 (.slice none 0 0) [] (w.alloc (.cells #[.int .i64 idn, .int .i64 lsn, (.slice a n cap)] 27)).drew (by decide) B1.out.1 B1.out.2 HZ1.out HCB.out ST0.out.hsz ST0.out.mkr; refine HH.mono ?_; clear HH; rintro e w1 ⟨rfl, v1, hm1, hu1, hl1⟩; obtain ⟨q10, q11, q12⟩ := (ST0.out.step HCw.out hm1 hu1).box))
  have ST1 : Hid (St w C idn lsn (.slice a n cap) w1 v1 ([] ++ nb idn 1)) := ST0.out.step HCw.out hm1 hu1
  clear hm1 hu1 hl1 
  go_wp2
  go_region_held3 (fun w' => w'.cell? ⟨w.heap.size, 0, none⟩ = some (.int .i64 idn) ∧ w'.cell? ⟨w.heap.size, 1, none⟩ = some (.int .i64 lsn) ∧ w'.cell? ⟨w.heap.size, 2, none⟩ = some (.slice a n cap)) (go_keep)
    (first | (go_at_call 64; have HH := putNumber_any C (w.heap.size + 1) lsn 4 v1 ([] ++ nb idn 1) w1.drew (by decide) B2.out.1 B2.out.2 HZ2.out HCB.out ST1.out.hsz ST1.out.mkr; refine HH.mono ?_; clear HH; rintro e w2 ⟨rfl, v2, hm2, hu2, hl2⟩; obtain ⟨q20, q21, q22⟩ := (ST1.out.step HCw.out hm2 hu2).box))
  have ST2 : Hid (St w C idn lsn (.slice a n cap) w2 v2 (([] ++ nb idn 1) ++ nb lsn 4)) := ST1.out.step HCw.out hm2 hu2
  clear hm2 hu2 hl2 q10 q11 q12
  go_wp2
  go_region_held3 (fun w' => w'.cell? ⟨w.heap.size, 0, none⟩ = some (.int .i64 idn) ∧ w'.cell? ⟨w.heap.size, 1, none⟩ = some (.int .i64 lsn) ∧ w'.cell? ⟨w.heap.size, 2, none⟩ = some (.slice a n cap)) (go_keep)
    (first | (go_at_call 64; have HH := putNumber_any C (w.heap.size + 1) (n : Int) 1 v2 ([] ++ nb idn 1 ++ nb lsn 4) w2.drew (by decide) B3.out.1 B3.out.2 HZ3.out HCB.out ST2.out.hsz ST2.out.mkr; refine HH.mono ?_; clear HH; rintro e w3 ⟨rfl, v3, hm3, hu3, hl3⟩; obtain ⟨q30, q31, q32⟩ := (ST2.out.step HCw.out hm3 hu3).box))
  have ST3 : Hid (St w C idn lsn (.slice a n cap) w3 v3 (([] ++ nb idn 1 ++ nb lsn 4) ++ nb (n : Int) 1)) := ST2.out.step HCw.out hm3 hu3
  clear hm3 hu3 hl3 q20 q21 q22
  have ST : Hid (St w C idn lsn (.slice a n cap) w3 v3 (hd idn lsn n ++ cb K V 0)) := by show St w C idn lsn (.slice a n cap) w3 v3 (hd idn lsn n ++ cb K V 0); rw [cb, List.append_nil]; exact ST3.out
  clear ST0 ST1 ST2 ST3 HZ1 HZ2 HZ3
  go_wp2
  go_loopw [5, 28] (fun _ i wr => ∃ k : Nat, k ≤ n ∧ i = .int .i64 k ∧ ∃ v', Hid (St w C idn lsn (.slice a n cap) wr v' (hd idn lsn n ++ cb K V k))) (fun _ i _ => n - (intOf i).toNat)
  case atStart => exact ⟨0, Nat.zero_le _, rfl, v3, ST⟩
  case round =>
    clear ST q30 q31 q32
    obtain ⟨k, hk0, rfl, v', ST⟩ := hrel
    by_cases hlt : k < n
    · rcases HK.out with h | ⟨b, off, rfl, hbl, hck, hcv⟩
      · omega
      have hbb : b < w.heap.size ∧ b ≠ C := by
        refine ⟨hbl, ?_⟩
        rcases HSRC.out b off rfl with h | h
        · omega
        · exact h
      have h1 : wr.cell? ⟨b, off + k * 2, none⟩ = some (.int .i64 (K k)) := (World.cell?_of_block (w := w) (a := ⟨b, off + k * 2, none⟩) (ST.out.block b hbb.1 hbb.2)).trans (hck k hlt)
      have h2 : wr.cell? ⟨b, off + k * 2 + 1, none⟩ = some (.int .i64 (V k)) := (World.cell?_of_block (w := w) (a := ⟨b, off + k * 2 + 1, none⟩) (ST.out.block b hbb.1 hbb.2)).trans (hcv k hlt)
      clear hbl hck hcv
      clear hbb
      have hlt' : (k : Int) < (n : Int) := by omega
      have HKB : Hid (0 ≤ K k ∧ K k ≤ 1000000) := by have := HG.out.gkey k hlt; exact ⟨this.1, by omega⟩
      have HVB : Hid (0 ≤ V k ∧ V k ≤ 1000000) := by have := HG.out.gval k hlt; exact ⟨this.1, by omega⟩
      have HZ1 : Hid ((hd idn lsn n ++ cb K V k).length ≤ 1000) := by show (hd idn lsn n ++ cb K V k).length ≤ 1000; rw [List.length_append, hd_len, cb_len]; omega
      have HZ2 : Hid ((hd idn lsn n ++ cb K V k ++ nb (K k) 1).length ≤ 1000) := by show (hd idn lsn n ++ cb K V k ++ nb (K k) 1).length ≤ 1000; rw [List.length_append, List.length_append, hd_len, cb_len, nb_len]; omega
      have HCr : Hid (C < wr.heap.size) := by have := ST.out.hsz; have := HCw.out; show C < wr.heap.size; omega
      have STa : Hid (St w C idn lsn (.slice (some ⟨b, off, none⟩) n cap) (wr.alloc (.cells #[.int .i64 (K k), .int .i64 (V k)] 45)) v' (hd idn lsn n ++ cb K V k)) := ST.out.alloc HCw.out _ _
      go_wp2
      go_region_held3 (fun w' => w'.cell? ⟨wr.heap.size, 0, none⟩ = some (.int .i64 (K k)) ∧ w'.cell? ⟨wr.heap.size, 1, none⟩ = some (.int .i64 (V k))) (go_keep)
        (first | (go_at_call 64; have HH := putNumber_any C (w.heap.size + 1) (K k) 1 v' (hd idn lsn n ++ cb K V k) (wr.alloc (.cells #[.int .i64 (K k), .int .i64 (V k)] 45)).drew (by decide) HKB.out.1 HKB.out.2 HZ1.out HCB.out STa.out.hsz STa.out.mkr; refine HH.mono ?_; clear HH; rintro e wA ⟨rfl, vA, hmA, huA, hlA⟩; obtain ⟨cA0, cA1⟩ := cbox1 ST.out.mkr HCr.out huA))
      have STA : Hid (St w C idn lsn (.slice (some ⟨b, off, none⟩) n cap) wA vA (hd idn lsn n ++ cb K V k ++ nb (K k) 1)) := STa.out.step HCw.out hmA huA
      have HLA : Hid (Lies (wr.alloc (.cells #[.int .i64 (K k), .int .i64 (V k)] 45)).drew v' vA) := hlA
      have HSA : Hid (wr.heap.size < wA.heap.size) := by
        have hq := huA.size
        have hq2 : (wr.alloc (.cells #[.int .i64 (K k), .int .i64 (V k)] 45)).heap.size ≤ wA.heap.size := hq
        rw [World.size_alloc] at hq2
        show wr.heap.size < wA.heap.size
        omega
      clear hmA huA hlA h1 h2
      go_wp2
      go_region_held3 (fun w' => w'.cell? ⟨wr.heap.size, 0, none⟩ = some (.int .i64 (K k)) ∧ w'.cell? ⟨wr.heap.size, 1, none⟩ = some (.int .i64 (V k))) (go_keep)
        (first | (go_at_call 64; have HH := putNumber_any C (w.heap.size + 1) (V k) 2 vA (hd idn lsn n ++ cb K V k ++ nb (K k) 1) wA.drew (by decide) HVB.out.1 HVB.out.2 HZ2.out HCB.out STA.out.hsz STA.out.mkr; refine HH.mono ?_; clear HH; rintro e wB ⟨rfl, vB, hmB, huB, hlB⟩; obtain ⟨cB0, cB1⟩ := cbox2 ST.out.mkr HCr.out HLA.out HSA.out huB cA0 cA1))
      have STB : Hid (St w C idn lsn (.slice (some ⟨b, off, none⟩) n cap) wB vB (hd idn lsn n ++ cb K V (k + 1))) := by
        show St w C idn lsn (.slice (some ⟨b, off, none⟩) n cap) wB vB (hd idn lsn n ++ cb K V (k + 1))
        rw [cb, ← List.append_assoc, ← List.append_assoc]
        exact STA.out.step HCw.out hmB huB
      clear hmB huB hlB
      go_wp2
      go_roundw
      case rel => exact ⟨k + 1, hlt, by go_num, vB, STB⟩
      case measure => simp [intOf]; omega
    · have hkn : k = n := by omega
      have STn : Hid (St w C idn lsn (.slice a n cap) wr v' (bdy idn lsn n K V)) := by show St w C idn lsn (.slice a n cap) wr v' (bdy idn lsn n K V); rw [bdy, ← hkn]; rw [hkn]; have h := ST.out; rw [hkn] at h; exact h
      have HBL : Hid ((bdy idn lsn n K V).length ≤ 46) := by show (bdy idn lsn n K V).length ≤ 46; rw [bdy, List.length_append, hd_len, cb_len]; omega
      have HFL : Hid ((fld idn lsn n K V).length ≤ 1000) := by show (fld idn lsn n K V).length ≤ 1000; rw [fld, List.length_append, List.length_replicate]; have := HBL.out; omega
      clear ST hkn
      go_wp2_with fail
      refine (fillTo_any C (w.heap.size + 1) v' (bdy idn lsn n K V) wr HBL.out HCB.out STn.out.hsz STn.out.mkr).mono ?_
      rintro e wA ⟨rfl, vA, hmA, huA, hlA⟩
      have STA : Hid (St w C idn lsn (.slice a n cap) wA vA (fld idn lsn n K V)) := STn.out.step HCw.out hmA ⟨huA.os, huA.tape, huA.output, huA.size, huA.block⟩
      clear hmA huA hlA
      go_wp2_with fail
      refine (putSum_any C (w.heap.size + 1) vA (fld idn lsn n K V) wA HFL.out (fld_byt _ _ _ _ _) HCB.out STA.out.hsz STA.out.mkr).mono ?_
      rintro e wB ⟨rfl, vB, hmB, huB, hlB⟩
      have STB : Hid (St w C idn lsn (.slice a n cap) wB vB (pgb idn lsn n K V)) := STA.out.step HCw.out hmB ⟨huB.os, huB.tape, huB.output, huB.size, huB.block⟩
      clear hmB huB hlB
      go_wp2_with fail
      go_end0
      exact ⟨rfl, vB, STB.out.mkr, STB.out.os, STB.out.tape, STB.out.output, by have := STB.out.hsz; omega, STB.out.block⟩
end Go.Proofs.Ytnhkjdcbaphfcaa
