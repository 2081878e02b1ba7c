/- Draws of lines: l15Line, DrawParseAct, DrawFormatAct. -/
import Derived.Test.YtiflheclfgloaaaDoorYda
namespace Go.Proofs.YtiflheclfgloaaaDoor
open Go.RowKit Go.Deep
set_option linter.unusedVariables false
set_option maxRecDepth 20000

theorem ftext_size (k x y z : Int) : (ftext k x y z).size ≤ 69 := by
  cases h : ffit k x y z with
  | false => rw [(ff_no h).2]; exact Nat.zero_le _
  | true =>
    rw [(ff_yes h).2]
    simp only [ffit, inB, Bool.and_eq_true, decide_eq_true_eq] at h
    have h1 := txt_size k.toNat (by omega) x y z (fc k.toNat) h.2
    have h2 := fc_le k.toNat (by omega)
    omega
theorem below_dwY {w wr w2 : World} {S : Nat} {a : Option Addr} {kk cap : Nat} {z : Nat → Int} {t : Nat} (h : Below w.heap.size w wr) (hs : w.heap.size ≤ S) (d : Dw S a kk cap z t wr w2) : Below w.heap.size w w2 := by
  have h1 := d.1
  exact ⟨h1.os.trans h.os, h1.tape.trans h.tape, h1.output.trans h.output, Nat.le_trans h.size h1.size, fun b hbl => (h1.block b (Nat.lt_of_lt_of_le hbl h.size) (.inl (by omega))).trans (h.block b hbl)⟩
def lits : List ByteArray := [⟨#[]⟩, ⟨#[32, 32]⟩, ⟨#[112, 117, 114, 103, 101]⟩, ⟨#[115, 104, 111, 119]⟩, ⟨#[119, 105, 110, 107]⟩, ⟨#[103, 101, 116, 32, 49]⟩, ⟨#[112, 117, 116, 32, 50, 32, 51]⟩, ⟨#[98, 101, 103, 105, 110, 32, 49]⟩, ⟨#[112, 117, 116, 32, 50, 32, 51, 32, 120]⟩, ⟨#[112, 117, 114, 103, 101, 32, 49]⟩, ⟨#[103, 101, 116, 32, 50, 32, 49, 50, 51, 52, 53, 54, 55, 56, 57, 48]⟩, ⟨#[115, 99, 97, 110, 32, 50, 10]⟩, ⟨#[32, 103, 101, 116, 32, 32, 50, 32, 51, 32]⟩]
theorem lits_size : ∀ i, i < 13 → (sg lits i).size ≤ 69 := by decide
theorem lit_str (w : World) (t : TypeId) (L : List ByteArray) {c : Array Value} (hc : c = (L.map Value.string).toArray) : ∀ i, i < L.length → (w.alloc (.cells c t)).cell? ⟨w.heap.size, i, none⟩ = some (.string (sg L i)) := fun i hi => by
  subst hc
  simp [sg, hi]
def LineD (S : Nat) (a : Option Addr) (k cap : Nat) (z : Nat → Int) (w : World) (e : Ending) (w' : World) : Prop := ∃ (s : ByteArray) (t' : Nat), e = .returned (.string s) ∧ s.size ≤ 69 ∧ Dw S a k cap z t' w w'
set_option maxHeartbeats 4000000 in
theorem l15Line_any (S : Nat) (a : Option Addr) (k cap : Nat) (z : Nat → Int) (t : Nat) (w : World) (ht : t ≤ 800000) (h : Src w S a k cap z t) :
    Calls Tryd.prog 29 #[.pointer (some ⟨S, 0, none⟩), .int .i64 4] w (LineD S a k cap z w) := by
  have HS : Hid (Src w S a k cap z t) := h
  clear h
  go_enter Tryd.func29, Tryd.ntmps29
  go_wp2_with fail
  refine (l1Chance_any S a k cap z t 6 w (by omega) (by omega) HS.out).mono ?_
  rintro e w1 ⟨b, rfl, hn⟩
  have HD1 : Hid (Dw S a k cap z (t + 1) w w1) := hn.dw
  clear hn
  cases b with
  | true =>
    have hlit := lit_str w1 9 lits (c := #[.string ⟨#[]⟩, .string ⟨#[32, 32]⟩, .string ⟨#[112, 117, 114, 103, 101]⟩, .string ⟨#[115, 104, 111, 119]⟩, .string ⟨#[119, 105, 110, 107]⟩, .string ⟨#[103, 101, 116, 32, 49]⟩, .string ⟨#[112, 117, 116, 32, 50, 32, 51]⟩, .string ⟨#[98, 101, 103, 105, 110, 32, 49]⟩, .string ⟨#[112, 117, 116, 32, 50, 32, 51, 32, 120]⟩, .string ⟨#[112, 117, 114, 103, 101, 32, 49]⟩, .string ⟨#[103, 101, 116, 32, 50, 32, 49, 50, 51, 52, 53, 54, 55, 56, 57, 48]⟩, .string ⟨#[115, 99, 97, 110, 32, 50, 10]⟩, .string ⟨#[32, 103, 101, 116, 32, 32, 50, 32, 51, 32]⟩]) rfl
    have hS1 : S < w1.heap.size := HD1.out.src.lt
    go_wp2_with fail
    generalize hW : (w1.alloc (.cells #[.string ⟨#[]⟩, .string ⟨#[32, 32]⟩, .string ⟨#[112, 117, 114, 103, 101]⟩, .string ⟨#[115, 104, 111, 119]⟩, .string ⟨#[119, 105, 110, 107]⟩, .string ⟨#[103, 101, 116, 32, 49]⟩, .string ⟨#[112, 117, 116, 32, 50, 32, 51]⟩, .string ⟨#[98, 101, 103, 105, 110, 32, 49]⟩, .string ⟨#[112, 117, 116, 32, 50, 32, 51, 32, 120]⟩, .string ⟨#[112, 117, 114, 103, 101, 32, 49]⟩, .string ⟨#[103, 101, 116, 32, 50, 32, 49, 50, 51, 52, 53, 54, 55, 56, 57, 48]⟩, .string ⟨#[115, 99, 97, 110, 32, 50, 10]⟩, .string ⟨#[32, 103, 101, 116, 32, 32, 50, 32, 51, 32]⟩] 9)) = w2 at *
    have HD2 : Hid (Dw S a k cap z (t + 1) w w2) := by rw [← hW]; exact HD1.out.below (below_new _ _)
    have hs2 : w1.heap.size < w2.heap.size := by rw [← hW]; simp
    clear hW
    refine (l1Next_any S a k cap z (t + 1) 13 _ (by omega) (by omega) HD2.out.src).mono ?_
    rintro e w3 ⟨v, rfl, hv, hn⟩
    have HD3 : Hid (Dw S a k cap z (t + 2) w w3) := HD2.out.trans hn.dw
    obtain ⟨i, rfl⟩ : ∃ i : Nat, v = (i : Int) := ⟨v.toNat, by have := hv.1; omega⟩
    have hi : i < 13 := by have := hv.2.1 (by omega); omega
    have hi1 : (i : Int) < 13 := by omega
    have hi0 : (0 : Int) ≤ (i : Int) := by omega
    have hx : w3.cell? ⟨w1.heap.size, i, none⟩ = some (.string (sg lits i)) := (hn.1.cell hs2 (by omega) _).trans (hlit i hi)
    have hsz := lits_size i hi
    clear hn hv hlit
    generalize sg lits i = s at *
    go_wp2_with fail
    go_ret
    exact ⟨s, _, rfl, hsz, HD3.out⟩
  | false =>
    go_wp2_with fail
    refine (l9Act_any S a k cap z (t + 1) 4 _ (by omega) (by omega) (by omega) HD1.out.src).mono ?_
    rintro e w2 ⟨kd, tx, ky, vl, t2, rfl, ht2, hd⟩
    have HD2 : Hid (Dw S a k cap z t2 w w2) := HD1.out.trans hd
    clear hd
    go_wp2_with fail
    refine (specFormat_any kd tx ky vl _).mono ?_
    rintro e w3 ⟨rfl, hb⟩
    have HD3 : Hid (Dw S a k cap z t2 w w3) := HD2.out.below hb
    have hsz := ftext_size kd tx ky vl
    clear hb
    generalize ftext kd tx ky vl = s at *
    generalize fcode kd tx ky vl = c at *
    have hfld : ∀ u : World, (Instr.field 31 (.agg #[.int .i64 c, .string s]) 1).run Tryd.prog u = .ok (.string s) u := fun u => by kernel_rfl
    go_wp2_with fail
    go_ret
    exact ⟨s, t2, rfl, hsz, HD3.out⟩
set_option maxHeartbeats 400000 in
theorem drawParse_any (a : Option Addr) (k cap : Nat) (z : Nat → Int) (w : World) (hk : k ≤ 1048576) (hz : Byt k z) (h : BytesAt w a k z) :
    Calls Tryd.prog 14 #[.slice a k cap] w fun e w' => ∃ s : ByteArray, e = .returned (.string s) ∧ s.size ≤ 69 ∧ Below w.heap.size w w' := by
  have HA : Hid (BytesAt w a k z) := h
  have HZ : Hid (Byt k z) := hz
  clear h hz
  go_enter Tryd.func14, Tryd.ntmps14
  go_wp2_with fail
  refine (l1Source_any a k cap z w hk HZ.out HA.out).mono ?_
  rintro e w1 ⟨rfl, hb, -, hsrc⟩
  go_wp2_with fail
  refine (l15Line_any w.heap.size a k cap z 0 w1 (by omega) hsrc).mono ?_
  rintro e w2 ⟨s, t2, rfl, hs, hd⟩
  have HB : Hid (Below w.heap.size w w2) := below_dwY hb (Nat.le_refl _) hd
  clear hb hd hsrc
  go_wp2_with fail
  go_ret
  exact ⟨s, rfl, hs, HB.out⟩
set_option maxHeartbeats 400000 in
theorem drawFormat_any (a : Option Addr) (k cap : Nat) (z : Nat → Int) (w : World) (hk : k ≤ 1048576) (hz : Byt k z) (h : BytesAt w a k z) :
    Calls Tryd.prog 15 #[.slice a k cap] w fun e w' => ∃ kd tx ky vl : Int, e = .returned (.agg #[.int .i64 kd, .int .i64 tx, .int .i64 ky, .int .i64 vl]) ∧ Below w.heap.size w w' := by
  have HA : Hid (BytesAt w a k z) := h
  have HZ : Hid (Byt k z) := hz
  clear h hz
  go_enter Tryd.func15, Tryd.ntmps15
  go_wp2_with fail
  have hb0 := below_new w (.cells #[.int .i64 0, .int .i64 0, .int .i64 0, .int .i64 0] 23)
  have B0 := Bq.new w (.int .i64 0) (.int .i64 0) (.int .i64 0) (.int .i64 0) 23
  have hs0 : w.heap.size < (w.alloc (.cells #[.int .i64 0, .int .i64 0, .int .i64 0, .int .i64 0] 23)).heap.size := by rw [World.size_alloc]; omega
  generalize (w.alloc (.cells #[.int .i64 0, .int .i64 0, .int .i64 0, .int .i64 0] 23)) = w0 at *
  refine (l1Source_any a k cap z w0 hk HZ.out (HA.out.below hb0)).mono ?_
  rintro e w1 ⟨rfl, hb, -, hsrc⟩
  replace B0 := B0.below hb
  go_wp2_with fail
  refine (l9Act_any w0.heap.size a k cap z 0 4 w1 (by omega) (by omega) (by omega) hsrc).mono ?_
  rintro e w2 ⟨kd, tx, ky, vl, t2, rfl, ht2, hd⟩
  replace B0 := B0.dw (by omega) hd
  have HB : Hid (Below w.heap.size w w2) := below_dwY (hb0.trans (hb.mono (by omega))) (by omega) hd
  obtain ⟨z0, z1, z2, z3, zf⟩ := B0
  clear hb hd hsrc hb0 hs0
  go_wp2_with fail
  refine bodyPost_ret (v := .agg #[.int .i64 kd, .int .i64 tx, .int .i64 ky, .int .i64 vl]) (by simp [results, Tryd.results15, go_sem, z0, z1, z2, z3]) rfl ⟨kd, tx, ky, vl, rfl, ?_⟩
  repeat (first | with_reducible exact HB.out | with_reducible refine Below.setCell ?_ (by first | omega | (simp <;> omega)) _)
end Go.Proofs.YtiflheclfgloaaaDoor
