/- PackPage: an answer that is bytes; the walk of impl.PackPage. -/
import Derived.Test.YtaokclhcmgbgnaaGreatQSfault
namespace Go.Proofs.YtaokclhcmgbgnaaGreat
open Go.RowKit Go.Deep
set_option linter.unusedVariables false
set_option maxRecDepth 20000

/-- Where putPage stands: the maker's bytes, the page's box, and that nothing older but the maker's cell has turned. -/
structure St (w : World) (C : Nat) (idn lsn : Int) (sl : Value) (wi : World) (v : Value) (zs : List Int) : Prop where
  mkr : MK wi C (w.heap.size + 1) v zs
  box : Box3 wi w.heap.size (.int .i64 idn) (.int .i64 lsn) sl
  os : wi.os = w.os
  tape : wi.tape = w.tape
  output : wi.output = w.output
  hsz : w.heap.size + 1 ≤ wi.heap.size
  block : ∀ k, k < w.heap.size → k ≠ C → wi.heap[k]? = w.heap[k]?
theorem own_far {w : World} {base n k : Nat} {v : Value} {xs : List Value} (h : w.ownsRow base 5 1 v n xs) (hk : k < base) : v.ownBlock ≠ some k := fun e => by have := (h.lt k e).1; omega
theorem own_lt {w : World} {base n k : Nat} {v : Value} {xs : List Value} (h : w.ownsRow base 5 1 v n xs) (hk : w.heap.size ≤ k) : v.ownBlock ≠ some k := fun e => by have := (h.lt k e).2; omega
theorem St.step {w wi wj : World} {C : Nat} {idn lsn : Int} {sl v v' : Value} {zs zs' : List Int} (h : St w C idn lsn sl wi v zs) (hC : C < w.heap.size) (hm : MK wj C (w.heap.size + 1) v' zs') (hu : Upd C v wi.drew wj) : St w C idn lsn sl wj v' zs' := by
  have hb := fun k (hk : k < wi.heap.size) (hkC : k ≠ C) (hv : v.ownBlock ≠ some k) => hu.block k hk hkC hv
  have hB := hb w.heap.size (by have := h.hsz; omega) (by omega) (own_far h.mkr.2.2 (by omega))
  refine ⟨hm, ⟨?_, ?_, ?_⟩, hu.os.trans h.os, hu.tape.trans h.tape, hu.output.trans h.output, Nat.le_trans h.hsz hu.size, fun k hk hkC => (hb k (by have := h.hsz; omega) hkC (own_far h.mkr.2.2 (by omega))).trans (h.block k hk hkC)⟩
  · exact (World.cell?_of_block (w := wi) (a := ⟨w.heap.size, 0, none⟩) hB).trans h.box.1
  · exact (World.cell?_of_block (w := wi) (a := ⟨w.heap.size, 1, none⟩) hB).trans h.box.2.1
  · exact (World.cell?_of_block (w := wi) (a := ⟨w.heap.size, 2, none⟩) hB).trans h.box.2.2
theorem St.alloc {w wi : World} {C : Nat} {idn lsn : Int} {sl v : Value} {zs : List Int} (h : St w C idn lsn sl wi v zs) (hC : C < w.heap.size) (o : Array Value) (t : TypeId) : St w C idn lsn sl (wi.alloc (.cells o t)) v zs := by
  refine ⟨⟨cell_alloc h.mkr.1 _, ?_, h.mkr.2.2.alloc _⟩, h.box.alloc _, h.os, h.tape, h.output, by have := h.hsz; rw [World.size_alloc]; omega, fun k hk hkC => (Below.heap_alloc _ _ _ (by have := h.hsz; omega)).trans (h.block k hk hkC)⟩
  rw [frozen?_alloc_cells]; exact h.mkr.2.1
/-- The bytes of the first k cells. -/
def cb (K V : Nat → Int) : Nat → List Int
  | 0 => []
  | k + 1 => cb K V k ++ nb (K k) 1 ++ nb (V k) 2
theorem cb_len (K V : Nat → Int) : ∀ k, (cb K V k).length = 3 * k
  | 0 => rfl
  | k + 1 => by simp [cb, cb_len K V k, nb_len]; omega
def hd (idn lsn : Int) (n : Nat) : List Int := nb idn 1 ++ nb lsn 4 ++ nb (n : Int) 1
theorem hd_len (idn lsn : Int) (n : Nat) : (hd idn lsn n).length = 6 := by simp [hd, nb_len]
def bdy (idn lsn : Int) (n : Nat) (K V : Nat → Int) : List Int := hd idn lsn n ++ cb K V n
def fld (idn lsn : Int) (n : Nat) (K V : Nat → Int) : List Int := bdy idn lsn n K V ++ List.replicate (46 - (bdy idn lsn n K V).length) 0
def pgb (idn lsn : Int) (n : Nat) (K V : Nat → Int) : List Int := fld idn lsn n K V ++ nb (sm (fld idn lsn n K V)) 2
theorem nb_byt (x : Int) : ∀ s, BytL (nb x s)
  | 0 => fun z hz => by simp [nb] at hz
  | s + 1 => fun z hz => by
    simp only [nb, List.mem_cons] at hz
    rcases hz with rfl | hz
    · exact byt_bd x s
    · exact nb_byt x s z hz
theorem BytL.app {a b : List Int} (h : BytL a) (k : BytL b) : BytL (a ++ b) := fun z hz => by
  rcases List.mem_append.1 hz with hz | hz
  · exact h z hz
  · exact k z hz
theorem cb_byt (K V : Nat → Int) : ∀ k, BytL (cb K V k)
  | 0 => fun z hz => by simp [cb] at hz
  | k + 1 => ((cb_byt K V k).app (nb_byt _ _)).app (nb_byt _ _)
theorem fld_byt (idn lsn : Int) (n : Nat) (K V : Nat → Int) : BytL (fld idn lsn n K V) :=
  ((((nb_byt _ _).app (nb_byt _ _)).app (nb_byt _ _)).app (cb_byt K V n)).app fun z hz => by rw [List.eq_of_mem_replicate hz]; omega

theorem cbox1 {wr wA : World} {C base : Nat} {v : Value} {Z : List Int} {x y : Value} (hm : MK wr C base v Z) (hC : C < wr.heap.size) (hu : Upd C v (wr.alloc (.cells #[x, y] 139)).drew wA) :
    wA.cell? ⟨wr.heap.size, 0, none⟩ = some x ∧ wA.cell? ⟨wr.heap.size, 1, none⟩ = some y := by
  have hb := hu.block wr.heap.size (by show wr.heap.size < (wr.alloc (.cells #[x, y] 139)).heap.size; rw [World.size_alloc]; omega) (by omega) (own_lt hm.2.2 (Nat.le_refl _))
  have h2 := Box2.new wr x y 139
  exact ⟨(World.cell?_of_block (w := wr.alloc (.cells #[x, y] 139)) (a := ⟨wr.heap.size, 0, none⟩) hb).trans h2.1, (World.cell?_of_block (w := wr.alloc (.cells #[x, y] 139)) (a := ⟨wr.heap.size, 1, none⟩) hb).trans h2.2⟩
theorem cbox2 {wr wA wB : World} {C base : Nat} {v vA : Value} {Z : List Int} {o : Obj} {x y : Value} (hm : MK wr C base v Z) (hC : C < wr.heap.size) (hl : Lies (wr.alloc o).drew v vA) (hlt : wr.heap.size < wA.heap.size) (hu : Upd C vA wA.drew wB)
    (h0 : wA.cell? ⟨wr.heap.size, 0, none⟩ = some x) (h1 : wA.cell? ⟨wr.heap.size, 1, none⟩ = some y) : wB.cell? ⟨wr.heap.size, 0, none⟩ = some x ∧ wB.cell? ⟨wr.heap.size, 1, none⟩ = some y := by
  have hne : vA.ownBlock ≠ some wr.heap.size := by
    rcases hl with hl | ⟨g, hg, hl⟩
    · rw [hl]; exact own_lt hm.2.2 (Nat.le_refl _)
    · rw [hl]
      have hg' : (wr.alloc o).heap.size ≤ g := hg
      rw [World.size_alloc] at hg'
      intro e; simp at e; omega
  have hb := hu.block wr.heap.size hlt (by omega) hne
  exact ⟨(World.cell?_of_block (w := wA) (a := ⟨wr.heap.size, 0, none⟩) hb).trans h0, (World.cell?_of_block (w := wA) (a := ⟨wr.heap.size, 1, none⟩) hb).trans h1⟩

set_option maxHeartbeats 4000000 in
theorem putPage_any (C : Nat) (idn lsn : Int) (n : Nat) (K V : Nat → Int) (a : Option Addr) (cap : Nat) (w : World) (g : GoodP idn lsn n K V) (hC : C < w.heap.size) (hA : CellsAt w a n K V) (hbC : ∀ b o, a = some ⟨b, o, none⟩ → n = 0 ∨ b ≠ C)
    (hm : MK w C (w.heap.size + 1) (.slice none 0 0) []) :
    Calls Tryz.prog 199 #[.pointer (some ⟨C, 0, none⟩), .agg #[.int .i64 idn, .int .i64 lsn, (.slice a n cap)]] w fun e w' => e = .returned (.tuple #[]) ∧ ∃ v', MK w' C (w.heap.size + 1) v' (pgb idn lsn n K V) ∧
      (w'.os = w.os ∧ w'.tape = w.tape ∧ w'.output = w.output ∧ w.heap.size ≤ w'.heap.size ∧ ∀ k, k < w.heap.size → k ≠ C → w'.heap[k]? = w.heap[k]?) := by
  have HG : Hid (GoodP idn lsn n K V) := g
  have hi1 := inB_iff.1 g.gid
  have hi2 := inB_iff.1 g.glsn
  have hn12 := g.gn
  obtain ⟨hi1a, hi1b⟩ := hi1
  obtain ⟨hi2a, hi2b⟩ := hi2
  have B1 : Hid (0 ≤ idn ∧ idn ≤ 1000000) := ⟨hi1a, by omega⟩
  have B2 : Hid (0 ≤ lsn ∧ lsn ≤ 1000000) := ⟨hi2a, hi2b⟩
  have B3 : Hid (0 ≤ (n : Int) ∧ (n : Int) ≤ 1000000) := ⟨by omega, by omega⟩
  have HCB : Hid (C < (w.heap.size + 1)) := by show C < (w.heap.size + 1); omega
  have HCw : Hid (C < w.heap.size) := hC
  have ST0 : Hid (St w C idn lsn (.slice a n cap) (w.alloc (.cells #[.int .i64 idn, .int .i64 lsn, (.slice a n cap)] 66)) (.slice none 0 0) []) :=
    ⟨⟨cell_alloc hm.1 _, by rw [frozen?_alloc_cells]; exact hm.2.1, World.ownsRow_nil _ _ _ _⟩, Box3.new _ _ _ _ _, rfl, rfl, rfl, by rw [World.size_alloc]; exact Nat.le_refl _, fun k hk _ => Below.heap_alloc _ _ _ hk⟩
  have HSRC : Hid (∀ b o, a = some ⟨b, o, none⟩ → n = 0 ∨ b ≠ C) := hbC
  have HK : Hid (CellsAt w a n K V) := hA
  have HZ1 : Hid (([] : List Int).length ≤ 1000) := by show ([] : List Int).length ≤ 1000; simp
  have HZ2 : Hid (([] ++ nb idn 1).length ≤ 1000) := by show ([] ++ nb idn 1).length ≤ 1000; simp [nb_len]
  have HZ3 : Hid (([] ++ nb idn 1 ++ nb lsn 4).length ≤ 1000) := by show ([] ++ nb idn 1 ++ nb lsn 4).length ≤ 1000; simp [nb_len]
  clear g hm hA hbC hC
  go_enter Tryz.func199, Tryz.ntmps199
  go_wp2
  go_region_held3 (fun w' => w'.cell? ⟨w.heap.size, 0, none⟩ = some (.int .i64 idn) ∧ w'.cell? ⟨w.heap.size, 1, none⟩ = some (.int .i64 lsn) ∧ w'.cell? ⟨w.heap.size, 2, none⟩ = some (.slice a n cap)) (go_keep)
    (first | (go_at_call 214; have HH := putNumber_any C (w.heap.size + 1) idn 1 (.slice none 0 0) [] (w.alloc (.cells #[.int .i64 idn, .int .i64 lsn, (.slice a n cap)] 66)).drew (by decide) B1.out.1 B1.out.2 HZ1.out HCB.out ST0.out.hsz ST0.out.mkr; refine HH.mono ?_; clear HH; rintro e w1 ⟨rfl, v1, hm1, hu1, hl1⟩; obtain ⟨q10, q11, q12⟩ := (ST0.out.step HCw.out hm1 hu1).box))
  have ST1 : Hid (St w C idn lsn (.slice a n cap) w1 v1 ([] ++ nb idn 1)) := ST0.out.step HCw.out hm1 hu1
  clear hm1 hu1 hl1 
  go_wp2
  go_region_held3 (fun w' => w'.cell? ⟨w.heap.size, 0, none⟩ = some (.int .i64 idn) ∧ w'.cell? ⟨w.heap.size, 1, none⟩ = some (.int .i64 lsn) ∧ w'.cell? ⟨w.heap.size, 2, none⟩ = some (.slice a n cap)) (go_keep)
    (first | (go_at_call 214; have HH := putNumber_any C (w.heap.size + 1) lsn 4 v1 ([] ++ nb idn 1) w1.drew (by decide) B2.out.1 B2.out.2 HZ2.out HCB.out ST1.out.hsz ST1.out.mkr; refine HH.mono ?_; clear HH; rintro e w2 ⟨rfl, v2, hm2, hu2, hl2⟩; obtain ⟨q20, q21, q22⟩ := (ST1.out.step HCw.out hm2 hu2).box))
  have ST2 : Hid (St w C idn lsn (.slice a n cap) w2 v2 (([] ++ nb idn 1) ++ nb lsn 4)) := ST1.out.step HCw.out hm2 hu2
  clear hm2 hu2 hl2 q10 q11 q12
  go_wp2
  go_region_held3 (fun w' => w'.cell? ⟨w.heap.size, 0, none⟩ = some (.int .i64 idn) ∧ w'.cell? ⟨w.heap.size, 1, none⟩ = some (.int .i64 lsn) ∧ w'.cell? ⟨w.heap.size, 2, none⟩ = some (.slice a n cap)) (go_keep)
    (first | (go_at_call 214; have HH := putNumber_any C (w.heap.size + 1) (n : Int) 1 v2 ([] ++ nb idn 1 ++ nb lsn 4) w2.drew (by decide) B3.out.1 B3.out.2 HZ3.out HCB.out ST2.out.hsz ST2.out.mkr; refine HH.mono ?_; clear HH; rintro e w3 ⟨rfl, v3, hm3, hu3, hl3⟩; obtain ⟨q30, q31, q32⟩ := (ST2.out.step HCw.out hm3 hu3).box))
  have ST3 : Hid (St w C idn lsn (.slice a n cap) w3 v3 (([] ++ nb idn 1 ++ nb lsn 4) ++ nb (n : Int) 1)) := ST2.out.step HCw.out hm3 hu3
  clear hm3 hu3 hl3 q20 q21 q22
  have ST : Hid (St w C idn lsn (.slice a n cap) w3 v3 (hd idn lsn n ++ cb K V 0)) := by show St w C idn lsn (.slice a n cap) w3 v3 (hd idn lsn n ++ cb K V 0); rw [cb, List.append_nil]; exact ST3.out
  clear ST0 ST1 ST2 ST3 HZ1 HZ2 HZ3
  go_wp2
  go_loopw [5, 28] (fun _ i wr => ∃ k : Nat, k ≤ n ∧ i = .int .i64 k ∧ ∃ v', Hid (St w C idn lsn (.slice a n cap) wr v' (hd idn lsn n ++ cb K V k))) (fun _ i _ => n - (intOf i).toNat)
  case atStart => exact ⟨0, Nat.zero_le _, rfl, v3, ST⟩
  case round =>
    clear ST q30 q31 q32
    obtain ⟨k, hk0, rfl, v', ST⟩ := hrel
    by_cases hlt : k < n
    · rcases HK.out with h | ⟨b, off, rfl, hbl, hck, hcv⟩
      · omega
      have hbb : b < w.heap.size ∧ b ≠ C := by
        refine ⟨hbl, ?_⟩
        rcases HSRC.out b off rfl with h | h
        · omega
        · exact h
      have h1 : wr.cell? ⟨b, off + k * 2, none⟩ = some (.int .i64 (K k)) := (World.cell?_of_block (w := w) (a := ⟨b, off + k * 2, none⟩) (ST.out.block b hbb.1 hbb.2)).trans (hck k hlt)
      have h2 : wr.cell? ⟨b, off + k * 2 + 1, none⟩ = some (.int .i64 (V k)) := (World.cell?_of_block (w := w) (a := ⟨b, off + k * 2 + 1, none⟩) (ST.out.block b hbb.1 hbb.2)).trans (hcv k hlt)
      clear hbl hck hcv
      clear hbb
      have hlt' : (k : Int) < (n : Int) := by omega
      have HKB : Hid (0 ≤ K k ∧ K k ≤ 1000000) := by have := HG.out.gkey k hlt; exact ⟨this.1, by omega⟩
      have HVB : Hid (0 ≤ V k ∧ V k ≤ 1000000) := by have := HG.out.gval k hlt; exact ⟨this.1, by omega⟩
      have HZ1 : Hid ((hd idn lsn n ++ cb K V k).length ≤ 1000) := by show (hd idn lsn n ++ cb K V k).length ≤ 1000; rw [List.length_append, hd_len, cb_len]; omega
      have HZ2 : Hid ((hd idn lsn n ++ cb K V k ++ nb (K k) 1).length ≤ 1000) := by show (hd idn lsn n ++ cb K V k ++ nb (K k) 1).length ≤ 1000; rw [List.length_append, List.length_append, hd_len, cb_len, nb_len]; omega
      have HCr : Hid (C < wr.heap.size) := by have := ST.out.hsz; have := HCw.out; show C < wr.heap.size; omega
      have STa : Hid (St w C idn lsn (.slice (some ⟨b, off, none⟩) n cap) (wr.alloc (.cells #[.int .i64 (K k), .int .i64 (V k)] 139)) v' (hd idn lsn n ++ cb K V k)) := ST.out.alloc HCw.out _ _
      go_wp2
      go_region_held3 (fun w' => w'.cell? ⟨wr.heap.size, 0, none⟩ = some (.int .i64 (K k)) ∧ w'.cell? ⟨wr.heap.size, 1, none⟩ = some (.int .i64 (V k))) (go_keep)
        (first | (go_at_call 214; have HH := putNumber_any C (w.heap.size + 1) (K k) 1 v' (hd idn lsn n ++ cb K V k) (wr.alloc (.cells #[.int .i64 (K k), .int .i64 (V k)] 139)).drew (by decide) HKB.out.1 HKB.out.2 HZ1.out HCB.out STa.out.hsz STa.out.mkr; refine HH.mono ?_; clear HH; rintro e wA ⟨rfl, vA, hmA, huA, hlA⟩; obtain ⟨cA0, cA1⟩ := cbox1 ST.out.mkr HCr.out huA))
      have STA : Hid (St w C idn lsn (.slice (some ⟨b, off, none⟩) n cap) wA vA (hd idn lsn n ++ cb K V k ++ nb (K k) 1)) := STa.out.step HCw.out hmA huA
      have HLA : Hid (Lies (wr.alloc (.cells #[.int .i64 (K k), .int .i64 (V k)] 139)).drew v' vA) := hlA
      have HSA : Hid (wr.heap.size < wA.heap.size) := by
        have hq := huA.size
        have hq2 : (wr.alloc (.cells #[.int .i64 (K k), .int .i64 (V k)] 139)).heap.size ≤ wA.heap.size := hq
        rw [World.size_alloc] at hq2
        show wr.heap.size < wA.heap.size
        omega
      clear hmA huA hlA h1 h2
      go_wp2
      go_region_held3 (fun w' => w'.cell? ⟨wr.heap.size, 0, none⟩ = some (.int .i64 (K k)) ∧ w'.cell? ⟨wr.heap.size, 1, none⟩ = some (.int .i64 (V k))) (go_keep)
        (first | (go_at_call 214; have HH := putNumber_any C (w.heap.size + 1) (V k) 2 vA (hd idn lsn n ++ cb K V k ++ nb (K k) 1) wA.drew (by decide) HVB.out.1 HVB.out.2 HZ2.out HCB.out STA.out.hsz STA.out.mkr; refine HH.mono ?_; clear HH; rintro e wB ⟨rfl, vB, hmB, huB, hlB⟩; obtain ⟨cB0, cB1⟩ := cbox2 ST.out.mkr HCr.out HLA.out HSA.out huB cA0 cA1))
      have STB : Hid (St w C idn lsn (.slice (some ⟨b, off, none⟩) n cap) wB vB (hd idn lsn n ++ cb K V (k + 1))) := by
        show St w C idn lsn (.slice (some ⟨b, off, none⟩) n cap) wB vB (hd idn lsn n ++ cb K V (k + 1))
        rw [cb, ← List.append_assoc, ← List.append_assoc]
        exact STA.out.step HCw.out hmB huB
      clear hmB huB hlB
      go_wp2
      go_roundw
      case rel => exact ⟨k + 1, hlt, by go_num, vB, STB⟩
      case measure => simp [intOf]; omega
    · have hkn : k = n := by omega
      have STn : Hid (St w C idn lsn (.slice a n cap) wr v' (bdy idn lsn n K V)) := by show St w C idn lsn (.slice a n cap) wr v' (bdy idn lsn n K V); rw [bdy, ← hkn]; rw [hkn]; have h := ST.out; rw [hkn] at h; exact h
      have HBL : Hid ((bdy idn lsn n K V).length ≤ 46) := by show (bdy idn lsn n K V).length ≤ 46; rw [bdy, List.length_append, hd_len, cb_len]; omega
      have HFL : Hid ((fld idn lsn n K V).length ≤ 1000) := by show (fld idn lsn n K V).length ≤ 1000; rw [fld, List.length_append, List.length_replicate]; have := HBL.out; omega
      clear ST hkn
      go_wp2_with fail
      refine (fillTo_any C (w.heap.size + 1) v' (bdy idn lsn n K V) wr HBL.out HCB.out STn.out.hsz STn.out.mkr).mono ?_
      rintro e wA ⟨rfl, vA, hmA, huA, hlA⟩
      have STA : Hid (St w C idn lsn (.slice a n cap) wA vA (fld idn lsn n K V)) := STn.out.step HCw.out hmA ⟨huA.os, huA.tape, huA.output, huA.size, huA.block⟩
      clear hmA huA hlA
      go_wp2_with fail
      refine (putSum_any C (w.heap.size + 1) vA (fld idn lsn n K V) wA HFL.out (fld_byt _ _ _ _ _) HCB.out STA.out.hsz STA.out.mkr).mono ?_
      rintro e wB ⟨rfl, vB, hmB, huB, hlB⟩
      have STB : Hid (St w C idn lsn (.slice a n cap) wB vB (pgb idn lsn n K V)) := STA.out.step HCw.out hmB ⟨huB.os, huB.tape, huB.output, huB.size, huB.block⟩
      clear hmB huB hlB
      go_wp2_with fail
      go_end0
      exact ⟨rfl, vB, STB.out.mkr, STB.out.os, STB.out.tape, STB.out.output, by have := STB.out.hsz; omega, STB.out.block⟩
/-- A list of cells, place by place. -/
def cl : List (Int × Int) → List Value
  | [] => []
  | c :: r => .int .i64 c.1 :: .int .i64 c.2 :: cl r
/-- m cells from the i-th on. -/
def lst (K V : Nat → Int) (i m : Nat) : List (Int × Int) := (List.range m).map fun q => (K (i + q), V (i + q))
/-- Where the key's cell goes, and where the rest begins. -/
def nx (K : Nat → Int) (key : Int) (n : Nat) : Nat := if has K key n = true then pl K key n + 1 else pl K key n
def wi (K V : Nat → Int) (key val : Int) (n : Nat) : List (Int × Int) := lst K V 0 (pl K key n) ++ [(key, val)] ++ lst K V (nx K key n) (n - nx K key n)
/-- Bytes in a block from lo on, below hi, that may be written. -/
def OwnB (w : World) (lo hi : Nat) (a : Option Addr) (n : Nat) (z : Nat → Int) : Prop :=
  hi ≤ w.heap.size ∧ (n = 0 ∨ ∃ g off, a = some ⟨g, off, none⟩ ∧ lo ≤ g ∧ g < hi ∧ (∀ i, i < n → w.cell? ⟨g, off + i, none⟩ = some (.int .u8 (z i))) ∧ (∀ i, i < n → w.frozen? ⟨g, off + i, none⟩ = false))
theorem OwnB.at {w : World} {lo hi : Nat} {a : Option Addr} {n : Nat} {z : Nat → Int} (h : OwnB w lo hi a n z) : BytesAt w a n z := by
  obtain ⟨h0, h1 | ⟨g, off, ha, _, hl, hc, _⟩⟩ := h
  · exact .inl h1
  · exact .inr ⟨g, off, ha, by omega, hc⟩
theorem OwnB.writes {w w' : World} {lo hi lo' hi' : Nat} {a : Option Addr} {n : Nat} {z : Nat → Int} (h : OwnB w lo hi a n z) (hw : Writes lo' hi' w w') (hd : hi ≤ lo' ∨ hi' ≤ lo) : OwnB w' lo hi a n z := by
  obtain ⟨h0, h1 | ⟨g, off, ha, h2, hl, hc, hf⟩⟩ := h
  · exact ⟨Nat.le_trans h0 hw.size, .inl h1⟩
  · have hb := hw.block g (by omega) (by omega)
    exact ⟨Nat.le_trans h0 hw.size, .inr ⟨g, off, ha, h2, hl, fun i hi => (World.cell?_of_block (w := w) (a := ⟨g, _, none⟩) hb).trans (hc i hi), fun i hi => (World.frozen?_of_block (w := w) (a := ⟨g, _, none⟩) hb).trans (hf i hi)⟩⟩
theorem OwnB.below {w w' : World} {lo hi : Nat} {a : Option Addr} {n : Nat} {z : Nat → Int} (h : OwnB w lo hi a n z) (hb : Below w.heap.size w w') : OwnB w' lo hi a n z :=
  h.writes (Writes.of_below (lo := hi) (hi := hi) hb) (.inl (Nat.le_refl _))
theorem OwnB.wide {w : World} {lo hi lo' hi' : Nat} {a : Option Addr} {n : Nat} {z : Nat → Int} (h : OwnB w lo hi a n z) (h1 : lo' ≤ lo) (h2 : hi ≤ hi') (h3 : hi' ≤ w.heap.size) : OwnB w lo' hi' a n z := by
  obtain ⟨h0, h4 | ⟨g, off, ha, h5, hl, r⟩⟩ := h
  · exact ⟨h3, .inl h4⟩
  · exact ⟨h3, .inr ⟨g, off, ha, by omega, by omega, r⟩⟩
def zOf (zs : List Int) (i : Nat) : Int := zs.getD i 0
theorem ownB_of_row {w : World} {base : Nat} {v : Value} {zs : List Int} (h : w.ownsRow base 5 1 v zs.length (bl zs)) : ∃ a cap, v = .slice a zs.length cap ∧ OwnB w base w.heap.size a zs.length (zOf zs) := by
  rcases h.2 with ⟨rfl, h0⟩ | ⟨g, cap, cur, rfl, hbg, hg, hnc, hcm, hcs, htake⟩
  · exact ⟨none, 0, by rw [h0], Nat.le_refl _, .inl h0⟩
  · have hlt : g < w.heap.size := by
      obtain ⟨hlt, _⟩ := Array.getElem?_eq_some_iff.1 hg
      exact hlt
    refine ⟨some ⟨g, 0, none⟩, cap, rfl, Nat.le_refl _, .inr ⟨g, 0, rfl, hbg, hlt, fun i hi => ?_, fun i hi => h.frozenAt _⟩⟩
    have := h.cellAt i (by omega)
    rw [Nat.zero_add, this]
    simp [bl, hi, zOf]
def BRes2 (c : Int) (zs : List Int) (w : World) (e : Ending) (w' : World) : Prop :=
  ∃ a cap, e = .returned (.agg #[.int .i64 c, .slice a (if c = 0 then zs else []).length cap]) ∧ Below w.heap.size w w' ∧ OwnB w' w.heap.size w'.heap.size a (if c = 0 then zs else []).length (zOf (if c = 0 then zs else [])) ∧ (if c = 0 then zs else []).length ≤ cap
theorem bres2_bad {c : Int} {zs : List Int} {w w' : World} (hb : Below w.heap.size w w') (hc : c ≠ 0) : BRes2 c zs w (.returned (.agg #[.int .i64 c, .slice none 0 0])) w' := by
  rw [BRes2]
  simp only [if_neg hc]
  exact ⟨none, 0, rfl, hb, ⟨Nat.le_refl _, .inl rfl⟩, Nat.le_refl _⟩
theorem bres2_ok {x : Int} {zs : List Int} {w wq w' : World} {a : Option Addr} {cap lo : Nat} (E : Hid (x = 0)) (hB : Below w.heap.size w wq) (hlo : w.heap.size + 2 ≤ lo)
    (ho : OwnB wq lo wq.heap.size a zs.length (zOf zs)) (hw : Writes (w.heap.size + 1) (w.heap.size + 2) wq w') (hs : w'.heap.size = wq.heap.size) (hcp : zs.length ≤ cap) :
    BRes2 x zs w (.returned (.agg #[.int .i64 0, .slice a zs.length cap])) w' := by
  rw [BRes2, E.out]
  simp only [if_true]
  have hb : Below w.heap.size w w' := Writes.below hB hw (by omega)
  refine ⟨a, cap, rfl, hb, ?_, hcp⟩
  rw [hs]
  exact OwnB.wide (OwnB.writes ho hw (.inr (by omega))) (by omega) (Nat.le_refl _) (by omega)
theorem own_cap {w : World} {base : Nat} {a : Option Addr} {n cap : Nat} {xs : List Value} (h : w.ownsRow base 5 1 (.slice a n cap) n xs) : n ≤ cap := by
  rcases h.2 with ⟨e, h0⟩ | ⟨_, _, _, e, _, _, h9, _⟩
  · omega
  · simp only [Value.slice.injEq] at e
    omega
set_option maxHeartbeats 2000000 in
theorem implPack2 (idn lsn : Int) (n : Nat) (K V : Nat → Int) (a : Option Addr) (cap : Nat) (w : World) (hn : n ≤ 140737488355328) (h : CellsAt w a n K V) :
    Calls Tryz.prog 163 #[.agg #[.int .i64 idn, .int .i64 lsn, .slice a n cap]] w (BRes2 (pf idn lsn n K V) (pgb idn lsn n K V) w) := by
  have hb0 : ∀ o1 o2, Below w.heap.size w ((w.alloc o1).alloc o2) := fun o1 o2 => ((Below.refl _ _).alloc (Nat.le_refl _) _).alloc (by simp) _
  by_cases h0 : pf idn lsn n K V = 0
  · have HG : Hid (GoodP idn lsn n K V) := good_of h0
    have E : Hid (pf idn lsn n K V = 0) := h0
    have HBN : Hid (∀ b o, a = some ⟨b, o, none⟩ → n = 0 ∨ b < w.heap.size) := by
      intro b o e
      rcases h with h | ⟨b', o', e', hl, _⟩
      · exact .inl h
      · rw [e] at e'
        simp only [Option.some.injEq, Addr.mk.injEq, and_true] at e'
        exact .inr (by omega)
    go_enter Tryz.func163, Tryz.ntmps163
    go_wp2_with fail
    refine (implFault_any idn lsn n K V _ cap _ (by omega) (h.below (hb0 _ _))).mono ?_
    rintro e w1 ⟨rfl, hb1⟩
    rw [h0]
    have HA : Hid (CellsAt w1 a n K V) := (h.below (hb0 _ _)).below hb1
    obtain ⟨hc, hf⟩ := bcell hb1
    have hz : w.heap.size + 1 < w1.heap.size := by have hq := hb1.size; simp at hq; omega
    have k0 : w1.cell? ⟨w.heap.size, 0, none⟩ = some (.int .i64 idn) := by rw [hc _ _ (by simp <;> omega)]; simp [go_sem]
    have k1 : w1.cell? ⟨w.heap.size, 1, none⟩ = some (.int .i64 lsn) := by rw [hc _ _ (by simp <;> omega)]; simp [go_sem]
    have k2 : w1.cell? ⟨w.heap.size, 2, none⟩ = some (.slice a n cap) := by rw [hc _ _ (by simp <;> omega)]; simp [go_sem]
    have r0 : w1.cell? ⟨w.heap.size + 1, 0, none⟩ = some (.int .i64 0) := by simp [hc]
    have r1 : w1.cell? ⟨w.heap.size + 1, 1, none⟩ = some (.slice none 0 0) := by simp [hc]
    have f0 : ∀ i, w1.frozen? ⟨w.heap.size + 1, i, none⟩ = false := fun i => by simp [hf, go_sem]
    have m0 := fun o : Obj => cell_alloc k0 o
    have m1 := fun o : Obj => cell_alloc k1 o
    have m2 := fun o : Obj => cell_alloc k2 o
    have HB : Hid (Below w.heap.size w w1) := below_then (hb0 _ _) hb1
    clear h0 hc hf hb1 hb0 h
    go_wp2_with fail
    refine (putPage_any w1.heap.size idn lsn n K V a cap (w1.alloc (.cells #[.slice none 0 0] 234)) HG.out (by simp) (HA.out.below (below_new _ _)) ?_ ⟨by simp, by simp, World.ownsRow_nil _ _ _ _⟩).mono ?_
    · intro b o e
      rcases HBN.out b o e with h | h
      · exact .inl h
      · exact .inr (by omega)
    rintro e w3 ⟨rfl, v3, hm3, hos, htape, hout, hsz3, hblk⟩
    obtain ⟨a3, cap3, rfl, ho3⟩ := ownB_of_row hm3.2.2
    have HCP : Hid ((pgb idn lsn n K V).length ≤ cap3) := own_cap hm3.2.2
    have hc3 := hm3.1
    have hs3 : w1.heap.size + 1 ≤ w3.heap.size := by rw [World.size_alloc] at hsz3; exact hsz3
    have hbk : ∀ k, k < w1.heap.size → w3.heap[k]? = w1.heap[k]? := fun k hk => (hblk k (by rw [World.size_alloc]; omega) (by omega)).trans (Below.heap_alloc _ _ _ hk)
    have t0 : w3.cell? ⟨w.heap.size + 1, 0, none⟩ = some (.int .i64 0) := (World.cell?_of_block (w := w1) (a := ⟨w.heap.size + 1, 0, none⟩) (hbk _ hz)).trans r0
    have t1 : w3.cell? ⟨w.heap.size + 1, 1, none⟩ = some (.slice none 0 0) := (World.cell?_of_block (w := w1) (a := ⟨w.heap.size + 1, 1, none⟩) (hbk _ hz)).trans r1
    have fz : ∀ i, w3.frozen? ⟨w.heap.size + 1, i, none⟩ = false := fun i => (World.frozen?_of_block (w := w1) (a := ⟨w.heap.size + 1, i, none⟩) (hbk _ hz)).trans (f0 i)
    have HB3 : Hid (Below w.heap.size w w3) := ⟨hos.trans HB.out.os, htape.trans HB.out.tape, hout.trans HB.out.output, by have := HB.out.size; omega, fun k hk => (hbk k (by omega)).trans (HB.out.block k hk)⟩
    have HO3 : Hid (OwnB w3 ((w1.alloc (.cells #[.slice none 0 0] 234)).heap.size + 1) w3.heap.size a3 (pgb idn lsn n K V).length (zOf (pgb idn lsn n K V))) := ho3
    generalize pgb idn lsn n K V = Z at *
    clear hm3 ho3 hblk hbk hos htape hout hsz3 r0 r1 f0 m0 m1 m2 k0 k1 k2 HA
    go_wp2_with fail
    refine bodyPost_ret (v := .agg #[.int .i64 0, .slice a3 Z.length cap3]) (by simp [results, Tryz.results163, go_sem, *]) rfl ?_
    refine bres2_ok E HB3.out ?_ HO3.out ?_ (by simp [World.setCell]) HCP.out
    · rw [World.size_alloc]; omega
    · repeat (first | exact Writes.refl _ _ _ | apply Writes.drew | refine Writes.setCell ?_ (by first | omega | (simp <;> omega)) (by first | omega | (simp <;> omega)) _)
  · have hd : (pf idn lsn n K V != 0) = true := by simpa using h0
    have HNZ : Hid (pf idn lsn n K V ≠ 0) := h0
    go_enter Tryz.func163, Tryz.ntmps163
    go_wp2_with fail
    refine (implFault_any idn lsn n K V _ cap _ (by omega) (h.below (hb0 _ _))).mono ?_
    rintro e w1 ⟨rfl, hb1⟩
    obtain ⟨hc, hf⟩ := bcell hb1
    generalize pf idn lsn n K V = c at *
    clear h0
    go_wp2_with fail
    refine bodyPost_ret (v := .agg #[.int .i64 c, .slice none 0 0]) (by simp [results, Tryz.results163, go_sem, hc]) rfl ?_
    refine bres2_bad ?_ HNZ.out
    repeat (first | exact below_then (hb0 _ _) hb1 | refine Below.setCell ?_ (by first | omega | (simp <;> omega)) _)
end Go.Proofs.YtaokclhcmgbgnaaGreat
