/- Records in bytes: impl.flagsOf, putNumbers, putRec. -/
import Derived.Test.YtppckjecidcflaaSp
import Derived.Test.YtppckjecidcflaaRf
namespace Go.Proofs.Ytppckjecidcflaa
open Go.RowKit Go.Deep
set_option linter.unusedVariables false
set_option maxRecDepth 20000

def fl (hd hs : Bool) : Int := (if hd = true then 1 else 0) + (if hs = true then 2 else 0)
theorem fl_bd (hd hs : Bool) : 0 ≤ fl hd hs ∧ fl hd hs ≤ 3 := by cases hd <;> cases hs <;> simp [fl]
theorem flagsOf_any (k t key : Int) (hd : Bool) (old : Int) (hs : Bool) (nw bk : Int) (w : World) : Calls Try.prog 76 #[.agg #[.int .i64 k, .int .i64 t, .int .i64 key, .bool hd, .int .i64 old, .bool hs, .int .i64 nw, .int .i64 bk]] w fun e w' =>
    e = .returned (.int .i64 (fl hd hs)) ∧ Below w.heap.size w w' := by
  cases hd <;> cases hs
  · go_enter Try.func76, Try.ntmps76
    go_wp2
    go_ret
    exact ⟨ret_int (by decide +kernel), below_new _ _⟩
  · go_enter Try.func76, Try.ntmps76
    go_wp2
    go_ret
    exact ⟨ret_int (by decide +kernel), below_new _ _⟩
  · go_enter Try.func76, Try.ntmps76
    go_wp2
    go_ret
    exact ⟨ret_int (by decide +kernel), below_new _ _⟩
  · go_enter Try.func76, Try.ntmps76
    go_wp2
    go_ret
    exact ⟨ret_int (by decide +kernel), below_new _ _⟩
/-- The first k of the numbers, in so many bytes each. -/
def cat (F : Nat → Int) (wd : Nat) : Nat → List Int
  | 0 => []
  | k + 1 => cat F wd k ++ nb (F k) wd
theorem cat_len (F : Nat → Int) (wd : Nat) : ∀ k, (cat F wd k).length = k * wd
  | 0 => by simp [cat]
  | k + 1 => by simp [cat, cat_len F wd k, nb_len, Nat.succ_mul]
set_option maxHeartbeats 2000000 in
theorem putNumbers_any (C base width n : Nat) (F : Nat → Int) (b cap : Nat) (v : Value) (zs : List Int) (w : World) (hs : width ≤ 4) (hn : n ≤ 10) (hF : ∀ i, i < n → 0 ≤ F i ∧ F i ≤ 1000000) (hz : zs.length ≤ 900) (hC : C < base) (hB : base ≤ w.heap.size) (hm : MK w C base v zs)
    (hbl : b < w.heap.size) (hbC : b ≠ C) (hbv : v.ownBlock ≠ some b) (hc : ∀ i, i < n → w.cell? ⟨b, i, none⟩ = some (.int .i64 (F i))) :
    Calls Try.prog 75 #[.pointer (some ⟨C, 0, none⟩), .int .i64 width, .slice (some ⟨b, 0, none⟩) n cap] w fun e w' => e = .returned (.tuple #[]) ∧ ∃ v', MK w' C base v' (zs ++ cat F width n) ∧ Upd C v w w' ∧ Lies w v v' := by
  have HM0 : Hid (MK w C base v zs) := hm
  have HCB : Hid (C < base ∧ base ≤ w.heap.size) := ⟨hC, hB⟩
  have HF : Hid (∀ i, i < n → 0 ≤ F i ∧ F i ≤ 1000000) := hF
  have HC : Hid (∀ i, i < n → w.cell? ⟨b, i, none⟩ = some (.int .i64 (F i))) := hc
  have HBV : Hid (b < w.heap.size ∧ b ≠ C ∧ v.ownBlock ≠ some b) := ⟨hbl, hbC, hbv⟩
  clear hm hC hB hF hc hbl hbC hbv
  go_enter Try.func75, Try.ntmps75
  go_wp2
  go_loopw [7, 10] (fun _ i wr => ∃ k : Nat, k ≤ n ∧ i = .int .i64 k ∧ ∃ v', Hid (MK wr C base v' (zs ++ cat F width k)) ∧ Hid (Upd C v w wr) ∧ Hid (Lies w v v')) (fun _ i _ => n - (intOf i).toNat)
  case atStart => exact ⟨0, Nat.zero_le _, rfl, v, by rw [cat, List.append_nil]; exact HM0, Upd.refl _ _ _, .inl rfl⟩
  case round =>
    obtain ⟨k, hk0, rfl, v', HM, HU, HL⟩ := hrel
    by_cases hlt : k < n
    · have hlt' : (k : Int) < (n : Int) := by omega
      have h1 : wr.cell? ⟨b, k, none⟩ = some (.int .i64 (F k)) := (World.cell?_of_block (w := w) (a := ⟨b, k, none⟩) (HU.out.block b HBV.out.1 HBV.out.2.1 HBV.out.2.2)).trans (HC.out k hlt)
      have HZ : Hid ((zs ++ cat F width k).length ≤ 1000) := by
        show (zs ++ cat F width k).length ≤ 1000
        rw [List.length_append, cat_len]
        have : k * width ≤ 10 * 4 := Nat.mul_le_mul (by omega) hs
        omega
      go_wp2_with fail
      refine (putNumber_any C base (F k) width v' (zs ++ cat F width k) wr hs (HF.out k hlt).1 (HF.out k hlt).2 HZ.out HCB.out.1 (Nat.le_trans HCB.out.2 HU.out.size) HM.out).mono ?_
      rintro e w1 ⟨rfl, v1, hm1, hu1, hl1⟩
      have HR : Hid (MK w1 C base v1 (zs ++ cat F width (k + 1)) ∧ Upd C v w w1 ∧ Lies w v v1) := ⟨by rw [cat, ← List.append_assoc]; exact hm1, HU.out.trans HL.out hu1, HL.out.trans HU.out.size hl1⟩
      clear hm1 hu1 hl1 h1
      go_wp2_with fail
      go_roundw
      case rel => exact ⟨k + 1, hlt, by go_num, v1, HR.out.1, HR.out.2.1, HR.out.2.2⟩
      case measure => simp [intOf]; omega
    · have hkn : k = n := by omega
      go_wp2_with fail
      go_end0
      refine ⟨rfl, v', ?_, HU.out, HL.out⟩
      have h := HM.out
      rw [hkn] at h
      exact h
end Go.Proofs.Ytppckjecidcflaa
