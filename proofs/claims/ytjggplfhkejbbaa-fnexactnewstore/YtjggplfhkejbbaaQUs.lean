/- impl.startsWithRec. -/
import Derived.Test.YtjggplfhkejbbaaQUr
namespace Go.Proofs.Ytjggplfhkejbbaa
open Go.RowKit Go.Deep
set_option linter.unusedVariables false
set_option maxRecDepth 20000

/-- The fault and the bytes of the record that 13 bytes tell. -/
def rzF (z : Nat → Int) : Int := rf (num z 0 1) (num z 1 2) (num z 3 1) (hdB z) (num z 5 2) (hsB z) (num z 7 2) (num z 9 2)
def rzB (z : Nat → Int) : List Int := rb (num z 0 1) (num z 1 2) (num z 3 1) (hdB z) (num z 5 2) (hsB z) (num z 7 2) (num z 9 2)
/-- Do the 13 bytes tell a record whose bytes they are? -/
def okR (z : Nat → Int) : Bool := decide (rzF z = 0) && decide (rzB z = zL z 13)
theorem rzB_len (z : Nat → Int) : (rzB z).length = 13 := rb_len _ _ _ _ _ _ _ _
set_option maxHeartbeats 4000000 in
theorem startsWith_some (n : Nat) (z : Nat → Int) (b off cap : Nat) (w : World) (hn : 13 ≤ n) (hcap : n ≤ cap) (hbl : b < w.heap.size) (hz : Byt 13 z) (hc : BA w b off 13 z) :
    Calls Try.prog 117 #[.slice (some ⟨b, off, none⟩) n cap] w fun e w' => e = .returned (.bool (okR z)) ∧ Below w.heap.size w w' := by
  have HZ : Hid (Byt 13 z) := hz
  have HC : Hid (BA w b off 13 z) := hc
  have hn13 : ¬ ((n : Int) < 13) := by omega
  have d13 : (13 : Int) ≤ (cap : Int) := by omega
  clear hz hc
  go_enter Try.func117, Try.ntmps117
  go_wp2_with fail
  refine (readRec_some n z b off cap w hn hcap hbl HZ.out HC.out).mono ?_
  rintro e w1 ⟨rfl, hb1⟩
  go_wp2_with fail
  refine (implPr_any (num z 0 1) (num z 1 2) (num z 3 1) (hdB z) (num z 5 2) (hsB z) (num z 7 2) (num z 9 2) w1).mono ?_
  rintro e w2 ⟨a3, cap3, rfl, hb2, ho3, hcp3⟩
  have HB2 : Hid (Below w.heap.size w w2) := below_then hb1 hb2
  have hCd : BA w2 b off 13 z := HC.out.below HB2.out
  clear hb1 hb2
  by_cases hp : rzF z = 0
  · have hp' : rf (num z 0 1) (num z 1 2) (num z 3 1) (hdB z) (num z 5 2) (hsB z) (num z 7 2) (num z 9 2) = 0 := hp
    have HOK : Hid (okR z = decide (rzB z = zL z 13)) := by show okR z = _; simp [okR, hp]
    rw [hp'] at ho3 hcp3 ⊢
    simp only [if_true] at ho3 hcp3 ⊢
    rw [rb_len] at ho3 hcp3 ⊢
    rcases ho3.2 with h | ⟨g3, o3, rfl, h31, h32, h33, h34⟩
    · cases h
    have hE : ∀ W : World, (∀ i, i < 13 → W.cell? ⟨g3, o3 + i, none⟩ = some (.int .u8 (zOf (rzB z) i))) → BA W b off 13 z → Calls Try.prog 126 #[.slice (some ⟨g3, o3, none⟩) 13 cap3, .slice (some ⟨b, off, none⟩) 13 cap] W fun e w' => e = .returned (.bool (decide (rzB z = zL z 13))) ∧ w' = W := fun W h1 h2 => by
      have hE := equal_some (rzB z) (zL z 13) g3 o3 cap3 b off cap W (fun x hx => rb_byt _ _ _ _ _ _ _ _ x hx) (zL_byt HZ.out) (fun i hi => by
        rw [rzB_len] at hi
        exact h1 i hi) (fun i hi => by
        rw [zL_len] at hi
        rw [zL_get _ _ _ hi]
        exact h2 i hi)
      rw [rzB_len, zL_len] at hE
      exact hE
    have HE : Hid _ := hE (w2.alloc (.cells #[.int .i64 0, .slice (some ⟨g3, o3, none⟩) 13 cap3] 113)).drew (fun i hi => cell_alloc (h33 i hi) (.cells #[.int .i64 0, .slice (some ⟨g3, o3, none⟩) 13 cap3] 113)) (hCd.alloc _)
    clear hE h31 h32 h33 h34 ho3 hCd hp hp'
    have HBX := Box2.new w2 (.int .i64 0) (.slice (some ⟨g3, o3, none⟩) 13 cap3) 113
    obtain ⟨x0, x1⟩ := HBX
    go_wp2_with fail
    go_region_held3 (fun w' => w'.cell? ⟨w2.heap.size, 0, none⟩ = some (.int .i64 0) ∧ w'.cell? ⟨w2.heap.size, 1, none⟩ = some (.slice (some ⟨g3, o3, none⟩) 13 cap3)) (go_keep)
      (first | (go_at_call 126; refine Calls.mono HE.out ?_; rintro e w' ⟨rfl, rfl⟩))
    all_goals
      go_wp2_with fail
      go_ret
      exact ⟨ret_bool HOK.out.symm, by repeat (first | exact HB2.out.alloc HB2.out.size _ | apply Below.drew)⟩
  · have hp' : ¬ rf (num z 0 1) (num z 1 2) (num z 3 1) (hdB z) (num z 5 2) (hsB z) (num z 7 2) (num z 9 2) = 0 := hp
    have hp2 : (rf (num z 0 1) (num z 1 2) (num z 3 1) (hdB z) (num z 5 2) (hsB z) (num z 7 2) (num z 9 2) == 0) = false := by simpa using hp'
    have HOK : Hid (okR z = false) := by show okR z = _; simp [okR, hp]
    simp only [if_neg hp'] at ho3 hcp3 ⊢
    generalize rf (num z 0 1) (num z 1 2) (num z 3 1) (hdB z) (num z 5 2) (hsB z) (num z 7 2) (num z 9 2) = c at *
    clear hp hp' ho3 hCd
    simp only [List.length_nil] at hcp3 ⊢
    have HBX := Box2.new w2 (.int .i64 c) (.slice a3 0 cap3) 113
    have HBY : Below w.heap.size w (w2.alloc (.cells #[.int .i64 c, .slice a3 0 cap3] 113)) := HB2.out.alloc HB2.out.size _
    go_wp2_with fail
    generalize w2.alloc (.cells #[.int .i64 c, .slice a3 0 cap3] 113) = wx at *
    obtain ⟨x0, x1⟩ := HBX
    have HBZ : Hid (Below w.heap.size w wx) := HBY
    clear HBY
    go_quiet (fail)
    go_wp2_with fail
    go_ret
    exact ⟨ret_bool HOK.out.symm, by repeat (first | exact HBZ.out | apply Below.drew | refine below_drewN ?_ _)⟩
theorem startsWith_short (n : Nat) (a : Option Addr) (cap : Nat) (w : World) (hn : n < 13) :
    Calls Try.prog 117 #[.slice a n cap] w fun e w' => e = .returned (.bool false) ∧ Below w.heap.size w w' := by
  have hn13 : (n : Int) < 13 := by omega
  go_enter Try.func117, Try.ntmps117
  go_wp2_with fail
  go_ret
  exact ⟨rfl, Below.refl _ _⟩
end Go.Proofs.Ytjggplfhkejbbaa
