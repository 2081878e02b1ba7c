/- Edges: whom a read depends on, as a function; the writers behind one, both sides. -/
import Derived.Test.YtnmmnhfgkcdajaaEda
namespace Go.Proofs.Ytnmmnhfgkcdajaa
open Go.RowKit Go.Deep
set_option linter.unusedVariables false
set_option maxRecDepth 20000

/-- The writers behind the one whose version was read. -/
def nxt (ws : List Int) (v : Int) : List Int := if v = 0 ∨ v = 1 then ws else if idx ws v < 0 then [] else ws.drop ((idx ws v).toNat + 1)
theorem nxt_01 {ws : List Int} {v : Int} (h : v = 0 ∨ v = 1) : nxt ws v = ws := by simp only [nxt]; rw [if_pos h]
theorem nxt_no {ws : List Int} {v : Int} (h : ¬ (v = 0 ∨ v = 1)) (h2 : idx ws v < 0) : nxt ws v = [] := by simp only [nxt]; rw [if_neg h, if_pos h2]
theorem nxt_at {ws : List Int} {v : Int} {p : Nat} (h : ¬ (v = 0 ∨ v = 1)) (h2 : idx ws v = (p : Int)) : nxt ws v = ws.drop (p + 1) := by simp only [nxt]; rw [if_neg h, h2, if_neg (by omega)]; simp
theorem zI_drop (l : List Int) (k i : Nat) : zI (l.drop k) i = zI l (k + i) := by simp [zI]
theorem nxt_len (ws : List Int) (v : Int) : (nxt ws v).length ≤ ws.length := by
  unfold nxt
  split
  · exact Nat.le_refl _
  · split
    · simp
    · simp
/-- The model's next writer; 0: there is none. -/
def nx (ws : List Int) (v : Int) : Int := if 0 ≤ idx ws v then (if idx ws v + 1 < ws.length then zI ws ((idx ws v).toNat + 1) else 0) else if v ≤ 1 ∧ 0 < ws.length then zI ws 0 else 0
theorem nx_nxt {ws : List Int} {v : Int} (hw : ∀ x ∈ ws, 2 ≤ x) (hv : 0 ≤ v) : nx ws v = if 0 < (nxt ws v).length then zI (nxt ws v) 0 else 0 := by
  by_cases h01 : v = 0 ∨ v = 1
  · have hi : ¬ 0 ≤ idx ws v := fun h => by
      have h1 := idx_mem ws v
      rw [decide_eq_true h] at h1
      have := hw v (by simpa using h1.symm)
      omega
    rw [nxt_01 h01, nx, if_neg hi]
    by_cases hl : 0 < ws.length
    · rw [if_pos ⟨by omega, hl⟩, if_pos hl]
    · rw [if_neg (fun h => hl h.2), if_neg hl]
  · by_cases hi : 0 ≤ idx ws v
    · obtain ⟨p, hp⟩ : ∃ p : Nat, idx ws v = (p : Int) := ⟨(idx ws v).toNat, by omega⟩
      have hlt := idx_le ws v
      rw [nxt_at h01 hp, nx, if_pos hi, hp]
      simp only [List.length_drop, zI_drop, Int.toNat_natCast, Nat.add_zero]
      by_cases q : p + 1 < ws.length
      · rw [if_pos (by omega), if_pos (by omega)]
      · rw [if_neg (by omega), if_neg (by omega)]
    · rw [nxt_no h01 (by omega), nx, if_neg hi, if_neg (fun h => by omega)]
      simp
/-- What a read gives. -/
def r1 (r : Hp) (cm : List Int) : List Ed := if (r.o != r.t && decide (r.o ∈ cm)) = true then [⟨r.o, r.t, 2⟩] else []
def r2 (r : Hp) (ws : List Int) : List Ed := if (decide (0 < (nxt ws r.o).length) && zI (nxt ws r.o) 0 != r.t) = true then [⟨r.t, zI (nxt ws r.o) 0, 4⟩] else []
def eR (r : Hp) (cm ws : List Int) : List Ed := r1 r cm ++ r2 r ws
theorem r1_len (r : Hp) (cm : List Int) : (r1 r cm).length ≤ 1 := by unfold r1; split <;> simp
theorem r2_len (r : Hp) (ws : List Int) : (r2 r ws).length ≤ 1 := by unfold r2; split <;> simp
theorem eR_len (r : Hp) (cm ws : List Int) : (eR r cm ws).length ≤ 2 := by have := r1_len r cm; have := r2_len r ws; simp only [eR, List.length_append]; omega
def WBs (l : List Int) (v : Int) (w : World) (e : Ending) (w' : World) : Prop := ∃ a' c', e = .returned (.slice a' (nxt l v).length c') ∧ w' = w ∧ IntsAt w a' (nxt l v).length (zI (nxt l v))
set_option maxHeartbeats 4000000 in
theorem writersBehind_any (l : List Int) (a : Option Addr) (cap : Nat) (v : Int) (w : World) (hn : l.length ≤ 90000) (hc : l.length ≤ cap) (h : IntsAt w a l.length (zI l)) :
    Calls Try.prog 73 #[.slice a l.length cap, .int .i64 v] w (WBs l v w) := by
  have HX : Hid (IntsAt w a l.length (zI l)) := h
  clear h
  obtain h0 | h0 := boolor (v == 0)
  · have HE : Hid (nxt l v = l) := nxt_01 (.inl (by simpa using h0))
    go_enter Try.func73, Try.ntmps73
    go_wp2_with fail
    go_ret
    rw [WBs, HE.out]
    exact ⟨_, _, rfl, rfl, HX.out⟩
  obtain h1 | h1 := boolor (v == 1)
  · have HE : Hid (nxt l v = l) := nxt_01 (.inr (by simpa using h1))
    go_enter Try.func73, Try.ntmps73
    go_wp2_with fail
    go_ret
    rw [WBs, HE.out]
    exact ⟨_, _, rfl, rfl, HX.out⟩
  have h01 : ¬ (v = 0 ∨ v = 1) := by simp at h0 h1; omega
  by_cases hi : idx l v < 0
  · have HE : Hid (nxt l v = []) := nxt_no h01 hi
    clear h01
    go_enter Try.func73, Try.ntmps73
    go_wp2_with fail
    refine (indexI_any l a cap v _ (by omega) HX.out).mono ?_
    rintro e w1 ⟨rfl, hq⟩
    have hq2 := hq.symm
    clear hq
    subst hq2
    go_wp2_with fail
    go_ret
    rw [WBs, HE.out]
    exact ⟨_, _, rfl, rfl, .inl rfl⟩
  · obtain ⟨p, hp⟩ : ∃ p : Nat, idx l v = (p : Int) := ⟨(idx l v).toNat, by omega⟩
    have hlt := idx_le l v
    obtain ⟨q, hq⟩ : ∃ q : Nat, q = p + 1 := ⟨_, rfl⟩
    have HE : Hid (nxt l v = l.drop q) := by rw [hq]; exact nxt_at h01 hp
    have HP : Hid (idx l v = (q : Int) - 1) := by show idx l v = _; omega
    have hp0 : ¬ ((q : Int) - 1 < 0) := by omega
    have hp1 : (0 : Int) ≤ (q : Int) := by omega
    have hp2 : (q : Int) ≤ (l.length : Int) := by omega
    have hp3 : (l.length : Int) ≤ (cap : Int) := by omega
    have hp4 : q ≤ 90000 := by omega
    have hp5 : 1 ≤ q := by omega
    clear h01 hi hlt hp hq
    rcases HX.out with h | ⟨b, off, rfl, hbl, hcc⟩
    · omega
    have HI : Hid (IntsAt w (if cap = q then some ⟨b, off, none⟩ else some ⟨b, off + q, none⟩) (l.length - q) (zI (l.drop q))) := by
      show IntsAt _ _ _ _
      by_cases e : cap = q
      · exact .inl (by omega)
      · rw [if_neg e]
        refine .inr ⟨b, off + q, rfl, hbl, fun i hi => ?_⟩
        have := hcc (q + i) (by omega)
        rw [zI_drop, Nat.add_assoc]
        exact this
    clear hcc
    go_enter Try.func73, Try.ntmps73
    go_wp2_with fail
    refine (indexI_any l _ cap v _ (by omega) HX.out).mono ?_
    rintro e w1 ⟨rfl, hq⟩
    have hq2 := hq.symm
    clear hq
    subst hq2
    rw [HP.out]
    have HF : Hid (∀ a' c', IntsAt w a' (l.length - q) (zI (l.drop q)) → WBs l v w (.returned (.slice a' (l.length - q) c')) w) := fun a' c' h => by
      rw [WBs, HE.out, List.length_drop]
      exact ⟨a', c', rfl, rfl, h⟩
    generalize l.length = N at *
    go_wp2_with fail
    all_goals go_ret
    · exact HF.out _ _ (by have h := HI.out; rw [if_pos (by assumption)] at h; exact h)
    · exact HF.out _ _ (by have h := HI.out; rw [if_neg (by assumption)] at h; exact h)
end Go.Proofs.Ytnmmnhfgkcdajaa
