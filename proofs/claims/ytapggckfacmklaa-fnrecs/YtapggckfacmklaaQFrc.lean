/- FnRecs: contracts as the law uses them. -/
import Derived.Test.YtapggckfacmklaaQFtc
import Derived.Test.YtapggckfacmklaaQTrp
import Derived.Test.YtapggckfacmklaaQAp
import Derived.Test.YtapggckfacmklaaQDlk
namespace Go.Proofs.Ytapggckfacmklaa
open Go.RowKit Go.Deep
set_option linter.unusedVariables false
set_option linter.unusedSimpArgs false
set_option maxRecDepth 20000

theorem append_bad_i {L : Lo} {r : Rc} (hC : apC L (rfR r) ≠ 0) (a1 a2 : Option Addr) (c1 c2 : Nat) (w : World) (hn1 : L.n1 ≤ 1048576) (hn2 : L.n2 ≤ 1048576) (hby : LogByt L) (h : LogAt w a1 a2 L) :
    Calls Try.prog 13 #[.agg #[.slice a1 L.n1 c1, .slice a2 L.n2 c2], .agg #[.int .i64 r.k, .int .i64 r.t, .int .i64 r.key, .bool r.hd, .int .i64 r.old, .bool r.hs, .int .i64 r.nw, .int .i64 r.bk]] w fun e w' => ∃ r1 d1 r2 d2, e = .returned (.agg #[.int .i64 (apC L (rfR r)), .int .i64 0, .slice r1 0 d1, .slice r2 0 d2]) ∧ Below w.heap.size w w' := by
  refine (implAr_any L a1 a2 c1 c2 r.k r.t r.key r.hd r.old r.hs r.nw r.bk w hn1 hn2 hby h).mono ?_
  have e1 : apS L (rfR r) = 0 := if_neg hC
  have e2 : apL L (rfR r) (rbR r) = ⟨0, fun _ => 0, 0, fun _ => 0⟩ := if_neg hC
  rintro e w' ⟨r1, r2, d1, d2, he, hb, -⟩
  refine ⟨r1, d1, r2, d2, ?_, hb⟩
  have e3 : apL L (rf r.k r.t r.key r.hd r.old r.hs r.nw r.bk) (rb r.k r.t r.key r.hd r.old r.hs r.nw r.bk) = ⟨0, fun _ => 0, 0, fun _ => 0⟩ := e2
  have e4 : apS L (rf r.k r.t r.key r.hd r.old r.hs r.nw r.bk) = 0 := e1
  rw [he, e3, e4]
  rfl
theorem append_bad_s {L : Lo} {r : Rc} (hC : apC L (rfR r) ≠ 0) (a1 a2 : Option Addr) (c1 c2 : Nat) (w : World) (hn1 : L.n1 ≤ 1048576) (hn2 : L.n2 ≤ 1048576) (hby : LogByt L) (h : LogAt w a1 a2 L) :
    Calls Try.prog 14 #[.agg #[.slice a1 L.n1 c1, .slice a2 L.n2 c2], .agg #[.int .i64 r.k, .int .i64 r.t, .int .i64 r.key, .bool r.hd, .int .i64 r.old, .bool r.hs, .int .i64 r.nw, .int .i64 r.bk]] w fun e w' => ∃ r1 d1 r2 d2, e = .returned (.agg #[.int .i64 (apC L (rfR r)), .int .i64 0, .slice r1 0 d1, .slice r2 0 d2]) ∧ Below w.heap.size w w' := by
  refine (specAr_any L a1 a2 c1 c2 r.k r.t r.key r.hd r.old r.hs r.nw r.bk w hn1 hn2 hby h).mono ?_
  have e1 : apS L (rfR r) = 0 := if_neg hC
  have e2 : apL L (rfR r) (rbR r) = ⟨0, fun _ => 0, 0, fun _ => 0⟩ := if_neg hC
  rintro e w' ⟨r1, r2, d1, d2, he, hb, -⟩
  refine ⟨r1, d1, r2, d2, ?_, hb⟩
  have e3 : apL L (rf r.k r.t r.key r.hd r.old r.hs r.nw r.bk) (rb r.k r.t r.key r.hd r.old r.hs r.nw r.bk) = ⟨0, fun _ => 0, 0, fun _ => 0⟩ := e2
  have e4 : apS L (rf r.k r.t r.key r.hd r.old r.hs r.nw r.bk) = 0 := e1
  rw [he, e3, e4]
  rfl
theorem append_ok {L : Lo} {r : Rc} (hg : lgC L = 0) (hr : rfR r = 0) (hf : L.n1 + L.n2 + 13 ≤ 4000) {m : Nat} (hm : (L.n1 + L.n2) / 13 + 1 = m) (a1 a2 : Option Addr) (c1 c2 : Nat) (w : World) (hn1 : L.n1 ≤ 1048576) (hn2 : L.n2 ≤ 1048576) (hby : LogByt L) (h : LogAt w a1 a2 L) :
    Calls Try.prog 13 #[.agg #[.slice a1 L.n1 c1, .slice a2 L.n2 c2], .agg #[.int .i64 r.k, .int .i64 r.t, .int .i64 r.key, .bool r.hd, .int .i64 r.old, .bool r.hs, .int .i64 r.nw, .int .i64 r.bk]] w fun e w' => ∃ r1 d1 r2 d2, e = .returned (.agg #[.int .i64 0, .int .i64 (m : Int), .slice r1 L.n1 d1, .slice r2 (L.n2 + 13) d2]) ∧ Below w.heap.size w w' ∧ LogAt w' r1 r2 (moreL L r) := by
  refine (implAr_any L a1 a2 c1 c2 r.k r.t r.key r.hd r.old r.hs r.nw r.bk w hn1 hn2 hby h).mono ?_
  obtain ⟨e0, e1, e2⟩ := ap_ok (rbR r) hg hr hf
  have f0 : apC L (rf r.k r.t r.key r.hd r.old r.hs r.nw r.bk) = 0 := e0
  have f1 : apS L (rf r.k r.t r.key r.hd r.old r.hs r.nw r.bk) = (m : Int) := by rw [← hm]; exact e1
  have f2 : apL L (rf r.k r.t r.key r.hd r.old r.hs r.nw r.bk) (rb r.k r.t r.key r.hd r.old r.hs r.nw r.bk) = moreL L r := e2
  rw [f0, f1, f2]
  rintro e w' ⟨r1, r2, d1, d2, rfl, hb, ho⟩
  exact ⟨r1, d1, r2, d2, rfl, hb, ho.at⟩
theorem pack_ok {r : Rc} (hr : rfR r = 0) (w : World) : Calls Try.prog 15 #[.agg #[.int .i64 r.k, .int .i64 r.t, .int .i64 r.key, .bool r.hd, .int .i64 r.old, .bool r.hs, .int .i64 r.nw, .int .i64 r.bk]] w fun e w' => ∃ pa pc, e = .returned (.agg #[.int .i64 0, .slice pa 13 pc]) ∧ Below w.heap.size w w' ∧ BytesAt w' pa 13 (zOf (rbR r)) ∧ 13 ≤ pc := by
  refine (implPr_any r.k r.t r.key r.hd r.old r.hs r.nw r.bk w).mono ?_
  have f0 : rf r.k r.t r.key r.hd r.old r.hs r.nw r.bk = 0 := hr
  rintro e w' ⟨pa, pc, he, hb, ho, hc⟩
  rw [f0] at he ho hc
  simp only [if_true] at he ho hc
  have f1 : (rb r.k r.t r.key r.hd r.old r.hs r.nw r.bk).length = 13 := rb_len _ _ _ _ _ _ _ _
  rw [f1] at he ho hc
  exact ⟨pa, pc, he, hb, ho.at, hc⟩
theorem unpack_one {r : Rc} (hr : rfR r = 0) (pa : Option Addr) (pc : Nat) (w : World) (hc : 13 ≤ pc) (h : BytesAt w pa 13 (zOf (rbR r))) :
    Calls Try.prog 10 #[.slice pa 13 pc] w fun e w' => ∃ ra rc, e = .returned (.agg #[.int .i64 0, .int .i64 13, .slice ra 1 rc]) ∧ Below w.heap.size w w' ∧ RecsAt w' ra 1 (fun _ => r) := by
  have hby : Byt 13 (zOf (rbR r)) := by
    have := byt_zOf (rb_byt r.k r.t r.key r.hd r.old r.hs r.nw r.bk)
    rw [rb_len] at this
    exact this
  refine (implUr_B 13 (zOf (rbR r)) pa pc w hc (by omega) hby h).mono ?_
  obtain ⟨f1, f2⟩ := one_facts hr
  rintro e w' hrc
  obtain ⟨ra, rc, rfl, hb, ho⟩ := R8.of hrc
  rw [f1] at ho ⊢
  refine ⟨ra, rc, rfl, hb, ?_⟩
  rcases ho.at with h | ⟨b, off, ha, hl, hcl⟩
  · exact .inl h
  · refine .inr ⟨b, off, ha, hl, fun i hi => ?_⟩
    have e0 : i = 0 := by omega
    have := hcl i hi
    rw [e0, f2] at this
    rw [e0]
    exact this
theorem flush_ok {L : Lo} (hg : lgC L = 0) {m : Nat} (hm : cnt (aZ L) (L.n1 + L.n2) = m) (a1 a2 : Option Addr) (c1 c2 : Nat) (w : World) (hn1 : L.n1 ≤ 1048576) (hn2 : L.n2 ≤ 1048576) (hby : LogByt L) (h : LogAt w a1 a2 L) :
    Calls Try.prog 16 #[.agg #[.slice a1 L.n1 c1, .slice a2 L.n2 c2]] w fun e w' => ∃ q r1 d1 r2 d2, e = .returned (.agg #[.int .i64 0, .int .i64 (m : Int), .slice r1 q d1, .slice r2 0 d2]) ∧ Below w.heap.size w w' := by
  refine (implFl_any L a1 a2 c1 c2 w hn1 hn2 hby h).mono ?_
  have e1 : flS L = (m : Int) := by unfold flS; rw [if_pos hg, hm]
  have e2 : flL L = ⟨L.n1 + L.n2, aZ L, 0, fun _ => 0⟩ := if_pos hg
  rw [hg, e1, e2]
  rintro e w' ⟨r1, r2, d1, d2, rfl, hb, -⟩
  exact ⟨_, r1, d1, r2, d2, rfl, hb⟩
theorem apC_zero {L : Lo} {c : Int} (h : apC L c = 0) : lgC L = 0 ∧ c = 0 ∧ L.n1 + L.n2 + 13 ≤ 4000 := by
  by_cases hg : lgC L = 0
  · by_cases hr : c = 0
    · by_cases hf : L.n1 + L.n2 + 13 ≤ 4000
      · exact ⟨hg, hr, hf⟩
      · rw [(ap_full [] hg hr (by omega)).1] at h; omega
    · rw [(ap_rec [] hg hr).1] at h
      exact absurd h hr
  · rw [(ap_log [] hg).1] at h
    exact absurd h hg
theorem C8.at0 {w : World} {b : Nat} {r : Rc} (h : C8 w b 0 r) : w.cell? ⟨b, 0, none⟩ = some (.int .i64 r.k) ∧ w.cell? ⟨b, 1, none⟩ = some (.int .i64 r.t) ∧ w.cell? ⟨b, 2, none⟩ = some (.int .i64 r.key) ∧ w.cell? ⟨b, 3, none⟩ = some (.bool r.hd) ∧
  w.cell? ⟨b, 4, none⟩ = some (.int .i64 r.old) ∧ w.cell? ⟨b, 5, none⟩ = some (.bool r.hs) ∧ w.cell? ⟨b, 6, none⟩ = some (.int .i64 r.nw) ∧ w.cell? ⟨b, 7, none⟩ = some (.int .i64 r.bk) := by
  have := h
  unfold C8 at this
  simpa only [Nat.zero_add] using this
end Go.Proofs.Ytapggckfacmklaa
