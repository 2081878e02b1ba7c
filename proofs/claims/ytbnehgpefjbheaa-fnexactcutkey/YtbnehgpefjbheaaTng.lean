/- impl.hangsTogether, impl.TreeFault. -/
import Derived.Test.YtbnehgpefjbheaaTnf
namespace Go.Proofs.Ytbnehgpefjbheaa
open Go.RowKit Go.Deep
set_option linter.unusedVariables false
set_option maxRecDepth 20000

theorem infoB : (Try.prog.info? 4).map (fun i => (i.zero, i.size, i.bytes)) = some (some (.bool false), 1, 1) := by kernel_rfl
theorem ht_start (w : World) (tb n : Nat) : Ht w tb n ((((((w.alloc (.cells #[.pointer (some ⟨tb, 0, none⟩)] 60)).alloc (.cells (madeCells #[.bool false] n) 4)).alloc (.cells #[.slice (some ⟨w.heap.size + 1, 0, none⟩) n n] 94)).alloc (.cells #[.int .i64 0] 3)).alloc (.cells #[.int .i64 0] 3)).alloc
      (.cells #[.func (.func 78) #[] #[.pointer (some ⟨w.heap.size + 2, 0, none⟩), .pointer (some ⟨w.heap.size + 3, 0, none⟩), .pointer (some ⟨w.heap.size, 0, none⟩), .pointer (some ⟨w.heap.size + 4, 0, none⟩), .pointer (some ⟨w.heap.size + 5, 0, none⟩)]] 95)) s0 := by
  have hb : Below w.heap.size w _ := ((((((Below.refl _ _).alloc (Nat.le_refl _) (.cells #[.pointer (some ⟨tb, 0, none⟩)] 60)).alloc (by simp) (.cells (madeCells #[.bool false] n) 4)).alloc (by simp; omega) (.cells #[.slice (some ⟨w.heap.size + 1, 0, none⟩) n n] 94)).alloc (by simp; omega) (.cells #[.int .i64 0] 3)).alloc (by simp; omega) (.cells #[.int .i64 0] 3)).alloc (by simp; omega)
      (.cells #[.func (.func 78) #[] #[.pointer (some ⟨w.heap.size + 2, 0, none⟩), .pointer (some ⟨w.heap.size + 3, 0, none⟩), .pointer (some ⟨w.heap.size, 0, none⟩), .pointer (some ⟨w.heap.size + 4, 0, none⟩), .pointer (some ⟨w.heap.size + 5, 0, none⟩)]] 95)
  refine ⟨hb, ?_, ?_, fun i hi => ?_, fun i => ?_, ?_, ?_, fun i => ?_, ?_, fun i => ?_, ?_⟩
  · simp
  · simp [go_sem]
  · have hr := World.rowIs_made (w.alloc (.cells #[.pointer (some ⟨tb, 0, none⟩)] 60)) (.bool false) n 4
    have h1 := hr.cell hi
    simp only [World.size_alloc] at h1
    show _ = some (Value.bool false)
    rw [← h1]
    simp [go_sem]
  · simp [go_sem]
  · simp [go_sem]
  · simp [go_sem, s0]
  · simp [go_sem]
  · simp [go_sem, s0]
  · simp [go_sem]
  · simp [go_sem]
theorem Ht.drewn {W0 w : World} {tb n : Nat} {s : St} (h : Ht W0 tb n w s) : Ht W0 tb n w.drew s := ⟨h.below.drew, h.size, h.t, h.row, h.rowf, h.met, h.cnt, h.cntf, h.ld, h.ldf, h.fn⟩
theorem skipH {P : Program} {md : Region.Mode} {ops : Array Oper} {Q : Exit → Act → World → Prop} {S : World → Prop} {fuel : Nat} {listed : Array Bool} {a : Act} {w : World} (i : Nat) (d : Option Tmp) (hd : (ops[i]?).map (fun o => o.dst) = some d)
    (hs : Region.noSelect ops = true) (hf : Region.free md ops listed i = true) (hr : (Region.ready md ops listed).contains i = true)
    (hw : (ops[i]?).map (fun o => Region.wanted o (yielded ops a.tmps)) = some false) (hQ : ∀ c a w, Q (.panic c) (a.put d undef) w → Q (.panic c) a w) (hS : S w)
    (h : wpAnyH P md ops Q S fuel (listed.setIfInBounds i true) (a.put d undef) w) : wpAnyH P md ops Q S (fuel + 1) listed a w := by
  obtain ⟨o, ho, rfl⟩ := Option.map_eq_some_iff.1 hd
  obtain ⟨o', ho', hw'⟩ := Option.map_eq_some_iff.1 hw
  obtain rfl : o = o' := by rw [ho] at ho'; exact Option.some.inj ho'
  exact wpAnyH_take ho hs hf hr hQ (.inr ⟨hw', rfl⟩) hS h
set_option maxHeartbeats 4000000 in
theorem hangs_any (t : Tr) (tb ca : Nat) (a : Option Addr) (w : World) (hn1 : 1 ≤ t.n) (hn : t.n ≤ 60) (hG : GoodN t.T t.n) (hr0 : 0 ≤ t.root) (hr : t.root < t.n) (htr : w.cell? ⟨tb, 0, none⟩ = some (.int .i64 t.root)) (htb : w.cell? ⟨tb, 1, none⟩ = some (.slice a t.n ca)) (hA : NdsAt w a t.n t.T) :
    Calls Try.prog 49 #[.pointer (some ⟨tb, 0, none⟩)] w fun e w' => e = .returned (.bool (hng t)) ∧ Below w.heap.size w w' := by
  have hmk := run_make_row' (P := Try.prog) 94 4 (.bool false) 1 Try.underlying94 infoB rfl .i64 .i64 t.n (by omega) (by omega)
  have hmf : ∀ (fn : Fn) (first cap : Array Value) (w : World), (Instr.makeFunc fn first cap).run Try.prog w = .ok (.func fn first cap) w := fun _ _ _ _ => rfl
  have hsf : ∀ (q : Addr) (u : World) (fn : Fn) (first cap : Array Value) m, (store q (.func fn first cap) m).run Try.prog u = stored Try.prog u q (.func fn first cap) m := fun q u fn first cap m => run_store Try.prog u q _ m rfl
  have T0 := fun o : Obj => cell_alloc htr o
  have T1 := fun o : Obj => cell_alloc htb o
  go_enter Try.func49, Try.ntmps49
  go_upto_region 5 with fail
  rw [show w.heap.size + 1 + 1 = w.heap.size + 2 from rfl]
  rw [show w.heap.size + 2 + 1 = w.heap.size + 3 from rfl]
  rw [show w.heap.size + 3 + 1 = w.heap.size + 4 from rfl]
  rw [show w.heap.size + 4 + 1 = w.heap.size + 5 from rfl]
  have HS := ht_start w tb t.n
  generalize (((((w.alloc (.cells #[.pointer (some ⟨tb, 0, none⟩)] 60)).alloc (.cells (madeCells #[.bool false] t.n) 4)).alloc (.cells #[.slice (some ⟨w.heap.size + 1, 0, none⟩) t.n t.n] 94)).alloc (.cells #[.int .i64 0] 3)).alloc (.cells #[.int .i64 0] 3)).alloc
      (.cells #[.func (.func 78) #[] #[.pointer (some ⟨w.heap.size + 2, 0, none⟩), .pointer (some ⟨w.heap.size + 3, 0, none⟩), .pointer (some ⟨w.heap.size, 0, none⟩), .pointer (some ⟨w.heap.size + 4, 0, none⟩), .pointer (some ⟨w.heap.size + 5, 0, none⟩)]] 95) = W at *
  have HH : Hid (Ht w tb t.n W s0) := HS
  obtain ⟨q, hq⟩ : ∃ q : Nat, t.root = q := ⟨t.root.toNat, by omega⟩
  have htq : t.root.toNat = q := by omega
  have HG : Hid (GoodN t.T t.n) := hG
  have HA : Hid (NdsAt w a t.n t.T) := hA
  have HTB : Hid (w.cell? ⟨tb, 1, none⟩ = some (.slice a t.n ca)) := htb
  have HT0 : Hid (w.cell? ⟨tb, 0, none⟩ = some (.int .i64 (q : Int))) := by rw [← hq]; exact htr
  have c0 := HS.t
  have c1 := cell_below htr HS.below
  have c2 := cell_below htb HS.below
  have c3 := HS.fn
  have HB : Hid (Below w.heap.size w W) := HS.below
  have hu := unm_s0 t.n
  rw [hq] at c1
  have HW : Hid (∀ u, Ht w tb t.n u s0 → Calls Try.prog 78 #[.int .i64 q, .int .i64 0, .int .i64 10001, .int .i64 1, .pointer (some ⟨w.heap.size + 2, 0, none⟩), .pointer (some ⟨w.heap.size + 3, 0, none⟩), .pointer (some ⟨w.heap.size, 0, none⟩), .pointer (some ⟨w.heap.size + 4, 0, none⟩), .pointer (some ⟨w.heap.size + 5, 0, none⟩)] u (WkI w tb t.n (vis t.T (t.n + 1) s0 q 0 10001 1))) := fun u hu' =>
    walkI w tb t.n ca a t.T hn HG.out HTB.out HA.out (t.n + 1) s0 q 0 10001 1 u hu' (by omega) (by rw [hu]; show 0 + t.n = t.n; omega) (by omega) (by omega) (by omega)
  have HN : Hid (hng t = match vis t.T (t.n + 1) s0 q 0 10001 1 with
    | none => false
    | some s => s.cnt == t.n) := by show hng t = _; unfold hng; rw [htq]; rfl
  clear HS hmk hmf hsf T0 T1 hu hG hA htb htr hq htq hr0 hr
  generalize vis t.T (t.n + 1) s0 q 0 10001 1 = r at *
  cases r with
  | none =>
    refine wp_region_held_drew (S := fun w' => w'.cell? ⟨w.heap.size, 0, none⟩ = some (.pointer (some ⟨tb, 0, none⟩)) ∧ w'.cell? ⟨tb, 0, none⟩ = some (.int .i64 q) ∧ w'.cell? ⟨tb, 1, none⟩ = some (.slice a t.n ca) ∧ w'.cell? ⟨w.heap.size + 5, 0, none⟩ = some (.func (.func 78) #[] #[.pointer (some ⟨w.heap.size + 2, 0, none⟩), .pointer (some ⟨w.heap.size + 3, 0, none⟩), .pointer (some ⟨w.heap.size, 0, none⟩), .pointer (some ⟨w.heap.size + 4, 0, none⟩), .pointer (some ⟨w.heap.size + 5, 0, none⟩)])) (by kernel_rfl) ⟨c0, c1, c2, c3⟩ (fun hS => ?_)
    refine wpAnyH_take (i := 0) (v := .func (.func 78) #[] #[.pointer (some ⟨w.heap.size + 2, 0, none⟩), .pointer (some ⟨w.heap.size + 3, 0, none⟩), .pointer (some ⟨w.heap.size, 0, none⟩), .pointer (some ⟨w.heap.size + 4, 0, none⟩), .pointer (some ⟨w.heap.size + 5, 0, none⟩)]) rfl (by kernel_rfl) (by kernel_rfl) (by kernel_rfl) (fun _ _ _ h => h) (Or.inl ⟨by kernel_rfl, by intro u hSu; obtain ⟨h0, h1, h2, h3⟩ := hSu; go_simp⟩) hS ?_
    refine wpAnyH_take (i := 1) (v := .pointer (some ⟨tb, 0, none⟩)) rfl (by kernel_rfl) (by kernel_rfl) (by kernel_rfl) (fun _ _ _ h => h) (Or.inl ⟨by kernel_rfl, by intro u hSu; obtain ⟨h0, h1, h2, h3⟩ := hSu; go_simp⟩) hS ?_
    refine wpAnyH_take (i := 2) (v := .pointer (some ⟨tb, 0, none⟩)) rfl (by kernel_rfl) (by kernel_rfl) (by kernel_rfl) (fun _ _ _ h => h) (Or.inl ⟨by kernel_rfl, by intro u hSu; obtain ⟨h0, h1, h2, h3⟩ := hSu; go_simp⟩) hS ?_
    refine wpAnyH_take (i := 3) (v := .pointer (some ⟨tb, 0, none⟩)) rfl (by kernel_rfl) (by kernel_rfl) (by kernel_rfl) (fun _ _ _ h => h) (Or.inl ⟨by kernel_rfl, by intro u hSu; obtain ⟨h0, h1, h2, h3⟩ := hSu; go_simp⟩) hS ?_
    refine wpAnyH_take (i := 4) (v := .int .i64 q) rfl (by kernel_rfl) (by kernel_rfl) (by kernel_rfl) (fun _ _ _ h => h) (Or.inl ⟨by kernel_rfl, by intro u hSu; obtain ⟨h0, h1, h2, h3⟩ := hSu; go_simp⟩) hS ?_
    refine wpAnyH_ready (rs := [5]) (by kernel_rfl) (by simp) ?_
    refine AllReadyH.cons rfl (fun K hK => ?_) AllReadyH.nil
    go_simp
    refine (HW.out _ HH.out.drewn).mono ?_
    rintro e w2 ⟨rfl, hn2⟩
    have HB2 : Hid (Below w.heap.size w w2) := hn2.below
    have HF : Hid (hng t = false) := HN.out
    refine hK.out _ _ ⟨hn2.t, cell_below HT0.out hn2.below, cell_below HTB.out hn2.below, hn2.fn⟩ (fun hS2 => ?_)
    clear hK K hS
    have hS := hS2
    clear hS2

    refine wpAnyH_take (i := 6) (v := .bool false) rfl (by kernel_rfl) (by kernel_rfl) (by kernel_rfl) (fun _ _ _ h => h) (Or.inl ⟨by kernel_rfl, by intro u hSu; obtain ⟨h0, h1, h2, h3⟩ := hSu; go_simp⟩) hS ?_
    refine skipH 7 (some 21) (by kernel_rfl) (by kernel_rfl) (by kernel_rfl) (by kernel_rfl) (by kernel_rfl) (fun _ _ _ h => h) hS ?_
    refine skipH 8 (some 22) (by kernel_rfl) (by kernel_rfl) (by kernel_rfl) (by kernel_rfl) (by kernel_rfl) (fun _ _ _ h => h) hS ?_
    refine skipH 9 (some 23) (by kernel_rfl) (by kernel_rfl) (by kernel_rfl) (by kernel_rfl) (by kernel_rfl) (fun _ _ _ h => h) hS ?_
    refine skipH 10 (some 24) (by kernel_rfl) (by kernel_rfl) (by kernel_rfl) (by kernel_rfl) (by kernel_rfl) (fun _ _ _ h => h) hS ?_
    refine skipH 11 (some 25) (by kernel_rfl) (by kernel_rfl) (by kernel_rfl) (by kernel_rfl) (by kernel_rfl) (fun _ _ _ h => h) hS ?_
    refine skipH 12 (some 26) (by kernel_rfl) (by kernel_rfl) (by kernel_rfl) (by kernel_rfl) (by kernel_rfl) (fun _ _ _ h => h) hS ?_
    refine skipH 13 (some 27) (by kernel_rfl) (by kernel_rfl) (by kernel_rfl) (by kernel_rfl) (by kernel_rfl) (fun _ _ _ h => h) hS ?_
    refine wpAnyH_take (i := 14) (v := .bool false) rfl (by kernel_rfl) (by kernel_rfl) (by kernel_rfl) (fun _ _ _ h => h) (Or.inl ⟨by kernel_rfl, by intro u hSu; obtain ⟨h0, h1, h2, h3⟩ := hSu; go_simp⟩) hS ?_
    refine wpAnyH_take (i := 15) (v := .bool false) rfl (by kernel_rfl) (by kernel_rfl) (by kernel_rfl) (fun _ _ _ h => h) (Or.inl ⟨by kernel_rfl, by intro u hSu; obtain ⟨h0, h1, h2, h3⟩ := hSu; go_simp⟩) hS ?_
    refine wpAnyH_done (by kernel_rfl) ?_ _
    go_simp
    go_wp2_with fail
    go_ret
    exact ⟨ret_bool HF.out.symm, HB2.out⟩
  | some s =>
    refine wp_region_held_drew (S := fun w' => w'.cell? ⟨w.heap.size, 0, none⟩ = some (.pointer (some ⟨tb, 0, none⟩)) ∧ w'.cell? ⟨tb, 0, none⟩ = some (.int .i64 q) ∧ w'.cell? ⟨tb, 1, none⟩ = some (.slice a t.n ca) ∧ w'.cell? ⟨w.heap.size + 5, 0, none⟩ = some (.func (.func 78) #[] #[.pointer (some ⟨w.heap.size + 2, 0, none⟩), .pointer (some ⟨w.heap.size + 3, 0, none⟩), .pointer (some ⟨w.heap.size, 0, none⟩), .pointer (some ⟨w.heap.size + 4, 0, none⟩), .pointer (some ⟨w.heap.size + 5, 0, none⟩)])) (by kernel_rfl) ⟨c0, c1, c2, c3⟩ (fun hS => ?_)
    refine wpAnyH_take (i := 0) (v := .func (.func 78) #[] #[.pointer (some ⟨w.heap.size + 2, 0, none⟩), .pointer (some ⟨w.heap.size + 3, 0, none⟩), .pointer (some ⟨w.heap.size, 0, none⟩), .pointer (some ⟨w.heap.size + 4, 0, none⟩), .pointer (some ⟨w.heap.size + 5, 0, none⟩)]) rfl (by kernel_rfl) (by kernel_rfl) (by kernel_rfl) (fun _ _ _ h => h) (Or.inl ⟨by kernel_rfl, by intro u hSu; obtain ⟨h0, h1, h2, h3⟩ := hSu; go_simp⟩) hS ?_
    refine wpAnyH_take (i := 1) (v := .pointer (some ⟨tb, 0, none⟩)) rfl (by kernel_rfl) (by kernel_rfl) (by kernel_rfl) (fun _ _ _ h => h) (Or.inl ⟨by kernel_rfl, by intro u hSu; obtain ⟨h0, h1, h2, h3⟩ := hSu; go_simp⟩) hS ?_
    refine wpAnyH_take (i := 2) (v := .pointer (some ⟨tb, 0, none⟩)) rfl (by kernel_rfl) (by kernel_rfl) (by kernel_rfl) (fun _ _ _ h => h) (Or.inl ⟨by kernel_rfl, by intro u hSu; obtain ⟨h0, h1, h2, h3⟩ := hSu; go_simp⟩) hS ?_
    refine wpAnyH_take (i := 3) (v := .pointer (some ⟨tb, 0, none⟩)) rfl (by kernel_rfl) (by kernel_rfl) (by kernel_rfl) (fun _ _ _ h => h) (Or.inl ⟨by kernel_rfl, by intro u hSu; obtain ⟨h0, h1, h2, h3⟩ := hSu; go_simp⟩) hS ?_
    refine wpAnyH_take (i := 4) (v := .int .i64 q) rfl (by kernel_rfl) (by kernel_rfl) (by kernel_rfl) (fun _ _ _ h => h) (Or.inl ⟨by kernel_rfl, by intro u hSu; obtain ⟨h0, h1, h2, h3⟩ := hSu; go_simp⟩) hS ?_
    refine wpAnyH_ready (rs := [5]) (by kernel_rfl) (by simp) ?_
    refine AllReadyH.cons rfl (fun K hK => ?_) AllReadyH.nil
    go_simp
    refine (HW.out _ HH.out.drewn).mono ?_
    rintro e w2 ⟨rfl, hn2⟩
    have HB2 : Hid (Below w.heap.size w w2) := hn2.below
    have hct := hn2.cnt
    have HF : Hid (hng t = (((s.cnt : Nat) : Int) == ((t.n : Nat) : Int))) := by
      show hng t = _
      rw [HN.out]
      show (s.cnt == t.n) = _
      by_cases e9 : s.cnt = t.n
      · rw [e9]; simp
      · have e8 : (((s.cnt : Nat) : Int) == ((t.n : Nat) : Int)) = false := by simp; omega
        rw [e8]; simp [e9]
    refine hK.out _ _ ⟨hn2.t, cell_below HT0.out hn2.below, cell_below HTB.out hn2.below, hn2.fn⟩ (fun hS2 => ?_)
    clear hK K hS
    have hS := hS2
    clear hS2

    refine wpAnyH_take (i := 6) (v := .bool true) rfl (by kernel_rfl) (by kernel_rfl) (by kernel_rfl) (fun _ _ _ h => h) (Or.inl ⟨by kernel_rfl, by intro u hSu; obtain ⟨h0, h1, h2, h3⟩ := hSu; go_simp⟩) hS ?_
    refine wpAnyH_take (i := 8) (v := .pointer (some ⟨tb, 0, none⟩)) rfl (by kernel_rfl) (by kernel_rfl) (by kernel_rfl) (fun _ _ _ h => h) (Or.inl ⟨by kernel_rfl, by intro u hSu; obtain ⟨h0, h1, h2, h3⟩ := hSu; go_simp⟩) hS ?_
    refine wpAnyH_take (i := 9) (v := .pointer (some ⟨tb, 0, none⟩)) rfl (by kernel_rfl) (by kernel_rfl) (by kernel_rfl) (fun _ _ _ h => h) (Or.inl ⟨by kernel_rfl, by intro u hSu; obtain ⟨h0, h1, h2, h3⟩ := hSu; go_simp⟩) hS ?_
    refine wpAnyH_take (i := 10) (v := .pointer (some ⟨tb, 1, none⟩)) rfl (by kernel_rfl) (by kernel_rfl) (by kernel_rfl) (fun _ _ _ h => h) (Or.inl ⟨by kernel_rfl, by intro u hSu; obtain ⟨h0, h1, h2, h3⟩ := hSu; go_simp⟩) hS ?_
    refine wpAnyH_take (i := 11) (v := .slice a t.n ca) rfl (by kernel_rfl) (by kernel_rfl) (by kernel_rfl) (fun _ _ _ h => h) (Or.inl ⟨by kernel_rfl, by intro u hSu; obtain ⟨h0, h1, h2, h3⟩ := hSu; go_simp⟩) hS ?_
    refine wpAnyH_take (i := 12) (v := .int .i64 t.n) rfl (by kernel_rfl) (by kernel_rfl) (by kernel_rfl) (fun _ _ _ h => h) (Or.inl ⟨by kernel_rfl, by intro u hSu; obtain ⟨h0, h1, h2, h3⟩ := hSu; go_simp⟩) hS ?_
    refine wpAnyH_ready (rs := [7]) (by kernel_rfl) (by simp) ?_
    refine AllReadyH.cons rfl (fun K hK => ?_) AllReadyH.nil
    go_simp
    refine hK.out _ _ hS (fun hS2 => ?_)
    clear hK K hS
    have hS := hS2
    clear hS2

    refine wpAnyH_take (i := 13) (v := .bool (((s.cnt : Nat) : Int) == ((t.n : Nat) : Int))) rfl (by kernel_rfl) (by kernel_rfl) (by kernel_rfl) (fun _ _ _ h => h) (Or.inl ⟨by kernel_rfl, by intro u hSu; obtain ⟨h0, h1, h2, h3⟩ := hSu; go_simp⟩) hS ?_
    refine wpAnyH_take (i := 14) (v := .bool (((s.cnt : Nat) : Int) == ((t.n : Nat) : Int))) rfl (by kernel_rfl) (by kernel_rfl) (by kernel_rfl) (fun _ _ _ h => h) (Or.inl ⟨by kernel_rfl, by intro u hSu; obtain ⟨h0, h1, h2, h3⟩ := hSu; go_simp⟩) hS ?_
    refine wpAnyH_take (i := 15) (v := .bool (((s.cnt : Nat) : Int) == ((t.n : Nat) : Int))) rfl (by kernel_rfl) (by kernel_rfl) (by kernel_rfl) (fun _ _ _ h => h) (Or.inl ⟨by kernel_rfl, by intro u hSu; obtain ⟨h0, h1, h2, h3⟩ := hSu; go_simp⟩) hS ?_
    refine wpAnyH_done (by kernel_rfl) ?_ _
    go_simp
    go_wp2_with fail
    go_ret
    exact ⟨ret_bool HF.out.symm, HB2.out⟩
end Go.Proofs.Ytbnehgpefjbheaa
