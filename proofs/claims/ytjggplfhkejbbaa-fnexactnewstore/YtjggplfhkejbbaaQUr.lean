/- A record read from bytes: impl.readRec. -/
import Derived.Test.YtjggplfhkejbbaaQUp
import Derived.Test.YtjggplfhkejbbaaQPr
namespace Go.Proofs.Ytjggplfhkejbbaa
open Go.RowKit Go.Deep
set_option linter.unusedVariables false
set_option maxRecDepth 20000

theorem and1_all : ∀ x : Fin 256, bits .and .u64 (x.val : Int) 1 = (x.val : Int) % 2 := by decide +kernel
theorem and2_all : ∀ x : Fin 256, bits .and .u64 (x.val : Int) 2 = (x.val : Int) / 2 % 2 * 2 := by decide +kernel
theorem and1 {x : Int} (h0 : 0 ≤ x) (h1 : x ≤ 255) : bits .and .u64 x 1 = x % 2 := by
  have h := and1_all ⟨x.toNat, by omega⟩
  have e : ((x.toNat : Nat) : Int) = x := by omega
  simpa [e] using h
theorem andTwo {x : Int} (h0 : 0 ≤ x) (h1 : x ≤ 255) : bits .and .u64 x 2 = x / 2 % 2 * 2 := by
  have h := and2_all ⟨x.toNat, by omega⟩
  have e : ((x.toNat : Nat) : Int) = x := by omega
  simpa [e] using h
def hdB (z : Nat → Int) : Bool := z 4 % 2 == 1
def hsB (z : Nat → Int) : Bool := z 4 / 2 % 2 == 1
theorem hdB_eq {z : Nat → Int} (h0 : 0 ≤ z 4) (h1 : z 4 ≤ 255) : (bits .and .u64 (z 4) 1 != 0) = hdB z := by
  rw [and1 h0 h1, hdB]
  have : z 4 % 2 = 0 ∨ z 4 % 2 = 1 := by omega
  rcases this with h | h <;> rw [h] <;> rfl
theorem hsB_eq {z : Nat → Int} (h0 : 0 ≤ z 4) (h1 : z 4 ≤ 255) : (bits .and .u64 (z 4) 2 != 0) = hsB z := by
  rw [andTwo h0 h1, hsB]
  have : z 4 / 2 % 2 = 0 ∨ z 4 / 2 % 2 = 1 := by omega
  rcases this with h | h <;> rw [h] <;> rfl
theorem ba_ad {w : World} {b off n : Nat} {z : Nat → Int} (h : BA w b off n z) (o : Obj) : BA (w.alloc o).drew b off n z := h.alloc o
set_option maxHeartbeats 4000000 in
theorem readRec_some (n : Nat) (z : Nat → Int) (b off cap : Nat) (w : World) (hn : 13 ≤ n) (hcap : n ≤ cap) (hbl : b < w.heap.size) (hz : Byt 13 z) (hc : BA w b off 13 z) :
    Calls Try.prog 118 #[.slice (some ⟨b, off, none⟩) n cap] w fun e w' =>
      e = .returned (.agg #[.int .i64 (num z 0 1), .int .i64 (num z 1 2), .int .i64 (num z 3 1), .bool (hdB z), .int .i64 (num z 5 2), .bool (hsB z), .int .i64 (num z 7 2), .int .i64 (num z 9 2)]) ∧ Below w.heap.size w w' := by
  have HZ : Hid (Byt 13 z) := hz
  have hz4 := hz 4 (by decide)
  have c1 : ¬ cap = 1 := by omega
  have c3 : ¬ cap = 3 := by omega
  have c5 : ¬ cap = 5 := by omega
  have c7 : ¬ cap = 7 := by omega
  have c9 : ¬ cap = 9 := by omega
  have d1 : (1 : Int) ≤ (cap : Int) := by omega
  have d3 : (3 : Int) ≤ (cap : Int) := by omega
  have d4 : (4 : Int) ≤ (cap : Int) := by omega
  have d7 : (7 : Int) ≤ (cap : Int) := by omega
  have d9 : (9 : Int) ≤ (cap : Int) := by omega
  have d11 : (11 : Int) ≤ (cap : Int) := by omega
  have dn : (4 : Int) < (n : Int) := by omega
  have hbn : b ≠ w.heap.size := by omega
  have hw4 : IntKind.u64.wrap (z 4) = z 4 := by rw [IntKind.wrap_u64]; omega
  have HHD := hdB_eq hz4.1 hz4.2
  have HHS := hsB_eq hz4.1 hz4.2
  have hA : BA (w.alloc (.cells #[.int .i64 0, .int .i64 0, .int .i64 0, .bool false, .int .i64 0, .bool false, .int .i64 0, .int .i64 0] 148)) b off 13 z := hc.alloc _
  have h4 := hA 4 (by decide)
  have hA0 : BA (w.alloc (.cells #[.int .i64 0, .int .i64 0, .int .i64 0, .bool false, .int .i64 0, .bool false, .int .i64 0, .int .i64 0] 148)).drew b off 13 z := hA
  have hcw : BA w b off 13 z := hc
  clear hz hc hz4
  go_enter Try.func118, Try.ntmps118
  go_wp2_with fail
  go_region_held3 (fun w' => BA w' b off 13 z) (first | with_reducible assumption | with_reducible exact ba_ad hcw _ | go_keep)
    (first | (go_at_call 127; refine (readNumG z b off 13 _ (by with_reducible assumption) HZ.out (by decide) (by omega) (by omega)).mono ?_; rintro e w' ⟨rfl, rfl⟩; simp only [Nat.add_sub_cancel_left, Nat.sub_self]))
  all_goals
    go_wp2_with fail
    refine bodyPost_ret (v := .agg #[.int .i64 (num z 0 1), .int .i64 (num z 1 2), .int .i64 (num z 3 1), .bool (hdB z), .int .i64 (num z 5 2), .bool (hsB z), .int .i64 (num z 7 2), .int .i64 (num z 9 2)]) (by simp [results, Try.results118, go_sem]) rfl ⟨rfl, ?_⟩
    repeat (first | exact (below_new _ _).drew | exact below_new _ _ | apply Below.drew | refine Below.setCell ?_ (by first | omega | (simp <;> omega)) _)
end Go.Proofs.Ytjggplfhkejbbaa
