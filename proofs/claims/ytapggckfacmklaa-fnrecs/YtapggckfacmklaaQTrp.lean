/- FnRecs: a record is read back; a log with a record more (numbers only). -/
import Derived.Test.YtapggckfacmklaaQTlp
import Derived.Test.YtapggckfacmklaaQDlg
import Derived.Test.YtapggckfacmklaaQAo
namespace Go.Proofs.Ytapggckfacmklaa
open Go.RowKit Go.Deep
set_option linter.unusedVariables false
set_option linter.unusedSimpArgs false
set_option maxRecDepth 20000

def rbR (r : Rc) : List Int := rb r.k r.t r.key r.hd r.old r.hs r.nw r.bk
def rfR (r : Rc) : Int := rf r.k r.t r.key r.hd r.old r.hs r.nw r.bk
theorem rbR_len (r : Rc) : (rbR r).length = 13 := rb_len _ _ _ _ _ _ _ _
theorem zR_rb {r : Rc} (g : GoodR r.k r.t r.key r.hd r.old r.hs r.nw r.bk) : zR (zOf (rbR r)) = r := by
  obtain ⟨k, t, key, hd, old, hs, nw, bk⟩ := r
  obtain ⟨g1, g2, g3, g4, g5, g6⟩ := g
  dsimp only at g1 g2 g3 g4 g5 g6
  have z0 : zOf (rbR ⟨k, t, key, hd, old, hs, nw, bk⟩) 0 = k := by simp [zOf, rbR, rb, rbb, nb, byt]; omega
  have z1 : zOf (rbR ⟨k, t, key, hd, old, hs, nw, bk⟩) 1 = t / 256 % 256 := by simp [zOf, rbR, rb, rbb, nb, byt]
  have z2 : zOf (rbR ⟨k, t, key, hd, old, hs, nw, bk⟩) 2 = t % 256 := by simp [zOf, rbR, rb, rbb, nb, byt]
  have z3 : zOf (rbR ⟨k, t, key, hd, old, hs, nw, bk⟩) 3 = key := by simp [zOf, rbR, rb, rbb, nb, byt]; omega
  have z4 : zOf (rbR ⟨k, t, key, hd, old, hs, nw, bk⟩) 4 = fl hd hs := by
    have := fl_bd hd hs
    simp [zOf, rbR, rb, rbb, nb, byt]; omega
  have z5 : zOf (rbR ⟨k, t, key, hd, old, hs, nw, bk⟩) 5 = old / 256 % 256 := by simp [zOf, rbR, rb, rbb, nb, byt]
  have z6 : zOf (rbR ⟨k, t, key, hd, old, hs, nw, bk⟩) 6 = old % 256 := by simp [zOf, rbR, rb, rbb, nb, byt]
  have z7 : zOf (rbR ⟨k, t, key, hd, old, hs, nw, bk⟩) 7 = nw / 256 % 256 := by simp [zOf, rbR, rb, rbb, nb, byt]
  have z8 : zOf (rbR ⟨k, t, key, hd, old, hs, nw, bk⟩) 8 = nw % 256 := by simp [zOf, rbR, rb, rbb, nb, byt]
  have z9 : zOf (rbR ⟨k, t, key, hd, old, hs, nw, bk⟩) 9 = bk / 256 % 256 := by simp [zOf, rbR, rb, rbb, nb, byt]
  have z10 : zOf (rbR ⟨k, t, key, hd, old, hs, nw, bk⟩) 10 = bk % 256 := by simp [zOf, rbR, rb, rbb, nb, byt]
  generalize zOf (rbR ⟨k, t, key, hd, old, hs, nw, bk⟩) = z at *
  have e1 : num z 0 1 = k := by simp [num, z0]
  have e2 : num z 1 2 = t := by simp [num, z1, z2]; omega
  have e3 : num z 3 1 = key := by simp [num, z3]
  have e5 : num z 5 2 = old := by simp [num, z5, z6]; omega
  have e7 : num z 7 2 = nw := by simp [num, z7, z8]; omega
  have e9 : num z 9 2 = bk := by simp [num, z9, z10]; omega
  have eh : hdB z = hd := by unfold hdB; rw [z4]; cases hd <;> cases hs <;> rfl
  have es : hsB z = hs := by unfold hsB; rw [z4]; cases hd <;> cases hs <;> rfl
  unfold zR
  rw [e1, e2, e3, e5, e7, e9, eh, es]
theorem okR_rb {r : Rc} (h : rfR r = 0) : okR (zOf (rbR r)) = true := by
  have g := zR_rb (goodR_of _ _ _ _ _ _ _ _ h)
  have e1 : rzF (zOf (rbR r)) = rfR (zR (zOf (rbR r))) := rfl
  have e2 : rzB (zOf (rbR r)) = rbR (zR (zOf (rbR r))) := rfl
  have e3 : zL (zOf (rbR r)) 13 = rbR r := by
    have := zL_zOf (rbR r)
    rw [rbR_len] at this
    exact this
  unfold okR
  rw [e1, e2, g, h, e3]
  simp
theorem sh_zero (z : Nat → Int) : sh z (13 * 0) = z := funext fun i => by show z (13 * 0 + i) = z i; rw [Nat.mul_zero, Nat.zero_add]
/-- The record's bytes, read. -/
theorem one_facts {r : Rc} (h : rfR r = 0) : cnt (zOf (rbR r)) 13 = 1 ∧ zRs (zOf (rbR r)) 0 = r := by
  constructor
  · have h1 := (cnt_spec (zOf (rbR r)) 13).2
    have h2 := cnt_le (zOf (rbR r)) 13
    by_cases e : cnt (zOf (rbR r)) 13 = 0
    · rw [e, sh_zero] at h1
      exact absurd ⟨by omega, okR_rb h⟩ h1
    · omega
  · unfold zRs
    rw [sh_zero]
    exact zR_rb (goodR_of _ _ _ _ _ _ _ _ h)
def moreL (L : Lo) (r : Rc) : Lo := ⟨L.n1, L.z1, L.n2 + 13, zOf (zL L.z2 L.n2 ++ rbR r)⟩
theorem zOf_app_l {xs ys : List Int} {i : Nat} (h : i < xs.length) : zOf (xs ++ ys) i = zOf xs i := by
  simp [zOf, List.getElem?_append_left h]
theorem zOf_app_r {xs ys : List Int} {i : Nat} : zOf (xs ++ ys) (xs.length + i) = zOf ys i := by
  simp [zOf, List.getElem?_append_right]
theorem zOf_zL {z : Nat → Int} {n i : Nat} (h : i < n) : zOf (zL z n) i = z i := by
  simp [zOf, zL, h]
theorem more_old {L : Lo} {r : Rc} {i : Nat} (h : i < L.n1 + L.n2) : aZ (moreL L r) i = aZ L i := by
  rw [aZ_at (moreL L r) i (by show i < L.n1 + (L.n2 + 13); omega), aZ_at L i h]
  by_cases e : i < L.n1
  · rw [if_pos e]
    exact if_pos e
  · rw [if_neg e]
    refine (if_neg e).trans ?_
    show zOf (zL L.z2 L.n2 ++ rbR r) (i - L.n1) = _
    rw [zOf_app_l (by rw [zL_len]; omega), zOf_zL (by omega)]
theorem more_new {L : Lo} {r : Rc} {i : Nat} (h : i < 13) : aZ (moreL L r) (L.n1 + L.n2 + i) = zOf (rbR r) i := by
  rw [aZ_at (moreL L r) _ (by show L.n1 + L.n2 + i < L.n1 + (L.n2 + 13); omega)]
  refine (if_neg (by show ¬ L.n1 + L.n2 + i < L.n1; omega)).trans ?_
  show zOf (zL L.z2 L.n2 ++ rbR r) (L.n1 + L.n2 + i - L.n1) = _
  have e : L.n1 + L.n2 + i - L.n1 = (zL L.z2 L.n2).length + i := by rw [zL_len]; omega
  rw [e, zOf_app_r]
/-- A log with a record more. -/
theorem more_facts {L : Lo} {r : Rc} (hg : lgC L = 0) (hr : rfR r = 0) (hf : L.n1 + L.n2 + 13 ≤ 4000) :
    lgC (moreL L r) = 0 ∧ cnt (aZ (moreL L r)) (L.n1 + (L.n2 + 13)) = cnt (aZ L) (L.n1 + L.n2) + 1 ∧ (L.n1 + L.n2) / 13 = cnt (aZ L) (L.n1 + L.n2) ∧
    (∀ i, i < cnt (aZ L) (L.n1 + L.n2) → zRs (aZ (moreL L r)) i = zRs (aZ L) i) ∧ zRs (aZ (moreL L r)) (cnt (aZ L) (L.n1 + L.n2)) = r := by
  obtain ⟨g1, g2⟩ := lgC_zero hg
  have hsh : ∀ i, i < 13 → sh (aZ (moreL L r)) (13 * cnt (aZ L) (L.n1 + L.n2)) i = zOf (rbR r) i := fun i hi => by
    show aZ (moreL L r) (13 * cnt (aZ L) (L.n1 + L.n2) + i) = _
    rw [g2]
    exact more_new hi
  have hc : cnt (aZ (moreL L r)) (L.n1 + (L.n2 + 13)) = cnt (aZ L) (L.n1 + L.n2) + 1 := by
    have h1 := (cnt_spec (aZ (moreL L r)) (L.n1 + (L.n2 + 13))).2
    have h2 := cnt_le (aZ (moreL L r)) (L.n1 + (L.n2 + 13))
    have h3 : cnt (aZ L) (L.n1 + L.n2) ≤ cnt (aZ (moreL L r)) (L.n1 + (L.n2 + 13)) := cnt_mono (by omega) fun i hi => (more_old hi).symm
    by_cases e : cnt (aZ (moreL L r)) (L.n1 + (L.n2 + 13)) = cnt (aZ L) (L.n1 + L.n2)
    · rw [e] at h1
      refine absurd ⟨by omega, ?_⟩ h1
      rw [okR_congr hsh]
      exact okR_rb hr
    · omega
  refine ⟨?_, hc, by omega, fun i hi => zRs_congr (n := L.n1 + L.n2) (fun j hj => more_old hj) (by omega), ?_⟩
  · unfold lgC
    rw [if_neg (by show ¬ 4000 < L.n1 + (L.n2 + 13); omega)]
    show (if 13 * cnt (aZ (moreL L r)) (L.n1 + (L.n2 + 13)) = L.n1 + (L.n2 + 13) then (0 : Int) else 5) = 0
    rw [hc, if_pos (by omega)]
  · unfold zRs
    rw [zR_congr hsh]
    exact zR_rb (goodR_of _ _ _ _ _ _ _ _ hr)
theorem more_byt {L : Lo} {r : Rc} (h : LogByt L) : LogByt (moreL L r) := by
  refine ⟨h.p, ?_⟩
  have e : (zL L.z2 L.n2 ++ rbR r).length = L.n2 + 13 := by rw [List.length_append, zL_len, rbR_len]
  have hb : BytL (zL L.z2 L.n2 ++ rbR r) := BytL.app (fun x hx => by
    simp only [zL, List.mem_map, List.mem_range] at hx
    obtain ⟨i, hi, rfl⟩ := hx
    exact h.q i hi) (rb_byt _ _ _ _ _ _ _ _)
  have := byt_zOf hb
  rw [e] at this
  exact this
end Go.Proofs.Ytapggckfacmklaa
