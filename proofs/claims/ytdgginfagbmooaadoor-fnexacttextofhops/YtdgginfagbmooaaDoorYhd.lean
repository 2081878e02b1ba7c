/- The model's TextOfHops. -/
import Derived.Test.YtdgginfagbmooaaDoorYhc
import Derived.Test.YtdgginfagbmooaaDoorHfc
namespace Go.Proofs.YtdgginfagbmooaaDoor
open Go.RowKit Go.Deep
set_option linter.unusedVariables false
set_option maxRecDepth 20000

/-- What a round keeps: the answer's box, the hop's. -/
def Sx (w u : World) (B p t y o : Nat) : Prop := Below w.heap.size w u ∧ Box2 u w.heap.size (.int .i64 0) (.string ⟨#[]⟩) ∧ (∀ i, u.frozen? ⟨w.heap.size, i, none⟩ = false) ∧ Box4 u B (.int .i64 ((p : Int) + 1)) (.int .i64 (t : Int)) (.int .i64 (y : Int)) (.int .i64 (o : Int))
theorem Sx.below {w u u' : World} {B p t y o : Nat} (h : Sx w u B p t y o) (hb : Below u.heap.size u u') : Sx w u' B p t y o :=
  ⟨h.1.trans (hb.mono h.1.size), h.2.1.below hb, fun i => ((bcell hb).2 _ _ h.2.1.lt).trans (h.2.2.1 i), h.2.2.2.below hb⟩
def T15 (p t : Nat) : ByteArray := lt5 (p + 1) ++ dg t
theorem ht_cases (p t y o : Nat) : ht ⟨(p : Int) + 1, t, y, o⟩ = (if p = 1 then (lt5 (p + 1) ++ dg t) ++ blk ++ (dg y ++ col ++ dg o) else if p = 2 then (lt5 (p + 1) ++ dg t) ++ blk ++ dg y else (lt5 (p + 1) ++ dg t)) ++ nl := by
  have e1 : ((p : Int) + 1).toNat = p + 1 := by omega
  have e2 : ((t : Int)).toNat = t := by omega
  have e3 : ((y : Int)).toNat = y := by omega
  have e4 : ((o : Int)).toNat = o := by omega
  have c1 : ((p : Int) + 1 = 2) ↔ p = 1 := by omega
  have c2 : ((p : Int) + 1 = 3) ↔ p = 2 := by omega
  simp only [ht, who, e1, e2, e3, e4, c1, c2]
theorem lit5 (w : World) (t : TypeId) : ∀ i, i < 6 → (w.alloc (.cells #[.string ⟨#[]⟩, .string ⟨#[98]⟩, .string ⟨#[114]⟩, .string ⟨#[119]⟩, .string ⟨#[99]⟩, .string ⟨#[97]⟩] t)).cell? ⟨w.heap.size, i, none⟩ = some (.string (lt5 i)) := fun i hi => by
  match i, hi with
  | 0, _ => simp [lt5, ltL]
  | 1, _ => simp [lt5, ltL]
  | 2, _ => simp [lt5, ltL]
  | 3, _ => simp [lt5, ltL]
  | 4, _ => simp [lt5, ltL]
  | 5, _ => simp [lt5, ltL]
set_option maxHeartbeats 8000000 in
theorem specTx_any (n : Nat) (R : Nat → Hp) (a : Option Addr) (w : World) (hn : n ≤ 1048576) (h : HopsAt w a n R) : Calls Tryd.prog 5 #[.slice a n n] w (TRes w R n) := by
  have HH : Hid (HopsAt w a n R) := h
  have hmo : Tryd.prog.follows .mixedOrders = true := by kernel_rfl
  clear h
  go_enter Tryd.func5, Tryd.ntmps5
  go_wp2_with fail
  have X0 := Box2.new w (.int .i64 0) (.string ⟨#[]⟩) 25
  have F0 : ∀ i, (w.alloc (.cells #[.int .i64 0, .string ⟨#[]⟩] 25)).frozen? ⟨w.heap.size, i, none⟩ = false := fun i => by simp [go_sem]
  have HB0 : Hid (Below w.heap.size w (w.alloc (.cells #[.int .i64 0, .string ⟨#[]⟩] 25))) := below_new _ _
  generalize (w.alloc (.cells #[.int .i64 0, .string ⟨#[]⟩] 25)) = w0 at *
  refine (specHf_any n R a w0 hn (HH.out.below HB0.out)).mono ?_
  rintro e w1 ⟨rfl, hb1⟩
  have HB1 : Hid (Below w.heap.size w w1) := HB0.out.trans (hb1.mono HB0.out.size)
  have hl0 : w.heap.size < w0.heap.size := X0.lt
  replace X0 := X0.below hb1
  have F1 : ∀ i, w1.frozen? ⟨w.heap.size, i, none⟩ = false := fun i => ((bcell hb1).2 _ _ hl0).trans (F0 i)
  clear hb1 F0 hl0
  by_cases hc : hsC R n = 0
  · obtain ⟨h400, htt, hgood⟩ := tt_ok hc
    have HG : Hid (∀ i, i < n → hpIn (R i) = true) := hgood
    have HE : Hid (hsC R n = 0 ∧ ttext R n = HTx R n) := ⟨hc, htt⟩
    rw [hc]
    clear hc htt hgood
    have HX : Hid (Box2 w1 w.heap.size (.int .i64 0) (.string ⟨#[]⟩) ∧ ∀ i, w1.frozen? ⟨w.heap.size, i, none⟩ = false) := ⟨X0, F1⟩
    clear X0 F1
    go_wp2_with fail
    go_loopw [4, 5, 6] (fun v i _ wr => ∃ q : Nat, q ≤ n ∧ i = .int .i64 q ∧ Hid (Below w.heap.size w wr) ∧ Hid (Box2 wr w.heap.size (.int .i64 0) (.string ⟨#[]⟩) ∧ ∀ i, wr.frozen? ⟨w.heap.size, i, none⟩ = false) ∧ v = .string (HTx R q)) (fun _ i _ _ => n - (intOf i).toNat)
    case atStart => exact ⟨0, Nat.zero_le _, rfl, HB1, HX, rfl⟩
    case round =>
      clear HB1 HX
      obtain ⟨q, hq, rfl, HB, HX, rfl⟩ := hrel
      by_cases hlt : q < n
      · have hlt' : (q : Int) < (n : Int) := by omega
        have hq0 : (0 : Int) ≤ (q : Int) := by omega
        rcases HH.out with h | ⟨b, off, rfl, hbl, hcc⟩
        · omega
        have hch := hcc q hlt
        have hin := HG.out q hlt
        have hts := HTx_size HG.out q hq
        have hhs := ht_size hin
        obtain ⟨k, t, y, o, hr, hk1, hk5, ht9, hy9, ho9⟩ := hop_nat hin
        obtain ⟨p, rfl⟩ : ∃ p, k = p + 1 := ⟨k - 1, by omega⟩
        have hkk : ((p + 1 : Nat) : Int) = (p : Int) + 1 := by omega
        have HNX : Hid (HTx R (q + 1) = HTx R q ++ ht ⟨(p : Int) + 1, t, y, o⟩) := by show HTx R q ++ ht (R q) = _; rw [hr, hkk]
        rw [hr] at hch
        obtain ⟨c0, c1, c2, c3⟩ := hch
        replace c0 := cell_below c0 HB.out
        replace c1 := cell_below c1 HB.out
        replace c2 := cell_below c2 HB.out
        replace c3 := cell_below c3 HB.out
        simp only at c0 c1 c2 c3
        have hys := dg_size y (by omega)
        have hos := dg_size o (by omega)
        have hds := dg_size t (by omega)
        have hls := lt5_size (p + 1) (by omega)
        have hts2 : (HTx R q).size ≤ 28000 := by omega
        have hp5 : (p : Int) + 1 < 6 := by omega
        have hp0 : (0 : Int) ≤ (p : Int) + 1 := by omega
        have hpk : ((p : Int) + 1).toNat = p + 1 := by omega
        clear hcc hr hin hhs hts
        generalize HTx R q = T at *
        have ha1 : ∀ u : World, (Op.stringOp .add T (lt5 (p + 1))).run Tryd.prog u = .ok (.string (T ++ lt5 (p + 1))) u := fun u => run_string_add_sum u _ _ (by omega)
        have ha2 : ∀ u : World, (Op.stringOp .add (T ++ lt5 (p + 1)) (dg t)).run Tryd.prog u = .ok (.string (T ++ lt5 (p + 1) ++ dg t)) u := fun u => run_string_add_sum u _ _ (by rw [ByteArray.size_append]; omega)
        go_upto_region 9 with fail
        have X1 := Box4.new wr (.int .i64 ((p : Int) + 1)) (.int .i64 (t : Int)) (.int .i64 (y : Int)) (.int .i64 (o : Int)) 34
        have HS0 : Hid (Sx w (wr.alloc (.cells #[.int .i64 ((p : Int) + 1), .int .i64 (t : Int), .int .i64 (y : Int), .int .i64 (o : Int)] 34)) wr.heap.size p t y o) :=
          ⟨HB.out.alloc HB.out.size _, HX.out.1.alloc _, fun i => ((bcell (below_new wr _)).2 _ _ HX.out.1.lt).trans (HX.out.2 i), X1⟩
        obtain ⟨B, hB⟩ : ∃ B, B = wr.heap.size := ⟨_, rfl⟩
        rw [← hB] at HS0 ⊢
        generalize (wr.alloc (.cells #[.int .i64 ((p : Int) + 1), .int .i64 (t : Int), .int .i64 (y : Int), .int .i64 (o : Int)] 34)) = w5 at *
        clear hB X1 HB HX c0 c1 c2 c3
        refine wp_region_E 999 (S := fun u => Sx w u B p t y o) hmo (HS0.out.below (Below.refl _ _).drew) (fun hS => ?_)
        refine wpAnyE_takeD (L := 999) (i := 0) (v := .string T) (some 23) rfl rfl (by kernel_rfl) (by kernel_rfl) (by kernel_rfl) (by kernel_rfl) (fun _ _ _ h => h) (Or.inl ⟨by kernel_rfl, by intro u hSu; go_simp⟩) hS ?_
        try simp only [Act.put, List.setIfInBounds_toArray, List.set_cons_zero, List.set_cons_succ]
        refine wpAnyE_takeD (L := 999) (i := 2) (v := .pointer (some ⟨B, 0, none⟩)) (some 25) rfl rfl (by kernel_rfl) (by kernel_rfl) (by kernel_rfl) (by kernel_rfl) (fun _ _ _ h => h) (Or.inl ⟨by kernel_rfl, by intro u hSu; go_simp⟩) hS ?_
        try simp only [Act.put, List.setIfInBounds_toArray, List.set_cons_zero, List.set_cons_succ]
        refine wpAnyE_takeD (L := 999) (i := 3) (v := .int .i64 ((p : Int) + 1)) (some 26) rfl rfl (by kernel_rfl) (by kernel_rfl) (by kernel_rfl) (by kernel_rfl) (fun _ _ _ h => h) (Or.inl ⟨by kernel_rfl, by intro u hSu; obtain ⟨-, -, -, p0, p1, p2, p3⟩ := hSu; go_simp⟩) hS ?_
        try simp only [Act.put, List.setIfInBounds_toArray, List.set_cons_zero, List.set_cons_succ]
        refine wpAnyE_takeD (L := 999) (i := 7) (v := .pointer (some ⟨B, 1, none⟩)) (some 30) rfl rfl (by kernel_rfl) (by kernel_rfl) (by kernel_rfl) (by kernel_rfl) (fun _ _ _ h => h) (Or.inl ⟨by kernel_rfl, by intro u hSu; go_simp⟩) hS ?_
        try simp only [Act.put, List.setIfInBounds_toArray, List.set_cons_zero, List.set_cons_succ]
        refine wpAnyE_takeD (L := 999) (i := 8) (v := .int .i64 (t : Int)) (some 31) rfl rfl (by kernel_rfl) (by kernel_rfl) (by kernel_rfl) (by kernel_rfl) (fun _ _ _ h => h) (Or.inl ⟨by kernel_rfl, by intro u hSu; obtain ⟨-, -, -, p0, p1, p2, p3⟩ := hSu; go_simp⟩) hS ?_
        try simp only [Act.put, List.setIfInBounds_toArray, List.set_cons_zero, List.set_cons_succ]
        refine wpAnyE_ready (rs := [1, 9]) (by kernel_rfl) (by simp) ?_
        refine AllReadyE.cons rfl (fun K9 hK => ?_) (AllReadyE.cons rfl (fun K9 hK => ?_) AllReadyE.nil)
        · have hx9 := lit5 w5 9 (p + 1) (by omega)
          go_simp
          refine hK.out _ _ (hS.below (below_new _ _)) (fun hS9 => ?_)
          try simp only [Act.put, List.setIfInBounds_toArray, List.set_cons_zero, List.set_cons_succ]
          clear hK K9 hS
          have hS := hS9
          clear hS9
          refine wpAnyE_takeD (L := 999) (i := 4) (v := .pointer (some ⟨w5.heap.size, p + 1, none⟩)) (some 27) rfl rfl (by kernel_rfl) (by kernel_rfl) (by kernel_rfl) (by kernel_rfl) (fun _ _ _ h => h) (Or.inl ⟨by kernel_rfl, by intro u hSu; go_simp⟩) hS ?_
          try simp only [Act.put, List.setIfInBounds_toArray, List.set_cons_zero, List.set_cons_succ]
          refine wpAnyE_ready (rs := [5, 9]) (by kernel_rfl) (by simp) ?_
          refine AllReadyE.cons rfl (fun K9 hK => ?_) (AllReadyE.cons rfl (fun K9 hK => ?_) AllReadyE.nil)
          · go_simp
            refine hK.out _ _ (hS) (fun hS9 => ?_)
            try simp only [Act.put, List.setIfInBounds_toArray, List.set_cons_zero, List.set_cons_succ]
            clear hK K9 hS
            have hS := hS9
            clear hS9
            refine wpAnyE_takeD (L := 999) (i := 6) (v := .string (T ++ lt5 (p + 1))) (some 29) rfl rfl (by kernel_rfl) (by kernel_rfl) (by kernel_rfl) (by kernel_rfl) (fun _ _ _ h => h) (Or.inl ⟨by kernel_rfl, by intro u hSu; go_simp⟩) hS ?_
            try simp only [Act.put, List.setIfInBounds_toArray, List.set_cons_zero, List.set_cons_succ]
            refine wpAnyE_ready (rs := [9]) (by kernel_rfl) (by simp) ?_
            refine AllReadyE.cons rfl (fun K9 hK => ?_) AllReadyE.nil
            go_simp
            refine (l7Digits_any t (by omega) _).mono ?_
            rintro e w6 ⟨rfl, hb6⟩
            refine hK.out _ _ (hS.below hb6) (fun hS9 => ?_)
            try simp only [Act.put, List.setIfInBounds_toArray, List.set_cons_zero, List.set_cons_succ]
            clear hK K9 hS
            have hS := hS9
            clear hS9
            clear hb6 hx9
            refine wpAnyE_takeD (L := 999) (i := 10) (v := .string (T ++ lt5 (p + 1) ++ dg t)) (some 33) rfl rfl (by kernel_rfl) (by kernel_rfl) (by kernel_rfl) (by kernel_rfl) (fun _ _ _ h => h) (Or.inl ⟨by kernel_rfl, by intro u hSu; go_simp⟩) hS ?_
            try simp only [Act.put, List.setIfInBounds_toArray, List.set_cons_zero, List.set_cons_succ]
            refine wpAnyE_takeD (L := 999) (i := 11) (v := .string (T ++ lt5 (p + 1) ++ dg t)) (some 4) rfl rfl (by kernel_rfl) (by kernel_rfl) (by kernel_rfl) (by kernel_rfl) (fun _ _ _ h => h) (Or.inl ⟨by kernel_rfl, by intro u hSu; go_simp⟩) hS ?_
            try simp only [Act.put, List.setIfInBounds_toArray, List.set_cons_zero, List.set_cons_succ]
            have hSe := hS
            refine wpAnyE_done (by kernel_rfl) ?_ _
            go_simp
            have HSc : Hid (Sx w w6 B p t y o) := hSe
            clear hSe
            have HU : Hid (∀ X : ByteArray, T ++ (T15 p t ++ X) = T ++ lt5 (p + 1) ++ dg t ++ X) := fun X => by simp only [T15, ByteArray.append_assoc]
            have hus : (T ++ lt5 (p + 1) ++ dg t).size ≤ 28100 := by simp only [ByteArray.size_append]; omega
            clear ha1 ha2
            generalize T ++ lt5 (p + 1) ++ dg t = U at *
            by_cases h1 : p = 1
            · have hc1 : ((p : Int) + 1 == 2) = true := by simp; omega
              have hc2 : ((p : Int) + 1 == 3) = false := by simp; omega
              have HAP : Hid (T ++ ht ⟨(p : Int) + 1, t, y, o⟩ = U ++ blk ++ dg y ++ col ++ dg o ++ nl) := by
                show T ++ ht ⟨(p : Int) + 1, t, y, o⟩ = _
                rw [ht_cases p t y o, if_pos h1]
                have h := HU.out (blk ++ (dg y ++ (col ++ (dg o ++ nl))))
                simp only [T15, ByteArray.append_assoc] at h ⊢
                exact h
              clear h1
              have hx1 : ∀ u : World, (Op.stringOp .add U ⟨#[32]⟩).run Tryd.prog u = .ok (.string (U ++ blk)) u := fun u => run_string_add_sum u _ blk (by have e2 : blk.size = 1 := rfl; (try simp only [ByteArray.size_append]); omega)
              have hx2 : ∀ u : World, (Op.stringOp .add (U ++ blk) (dg y)).run Tryd.prog u = .ok (.string (U ++ blk ++ dg y)) u := fun u => run_string_add_sum u _ _ (by have e2 : blk.size = 1 := rfl; (try simp only [ByteArray.size_append]); omega)
              have hx3 : ∀ u : World, (Op.stringOp .add (U ++ blk ++ dg y) ⟨#[58]⟩).run Tryd.prog u = .ok (.string (U ++ blk ++ dg y ++ col)) u := fun u => run_string_add_sum u _ col (by have e2 : blk.size = 1 := rfl; have e3 : col.size = 1 := rfl; (try simp only [ByteArray.size_append]); omega)
              have hx4 : ∀ u : World, (Op.stringOp .add (U ++ blk ++ dg y ++ col) (dg o)).run Tryd.prog u = .ok (.string (U ++ blk ++ dg y ++ col ++ dg o)) u := fun u => run_string_add_sum u _ _ (by have e2 : blk.size = 1 := rfl; have e3 : col.size = 1 := rfl; (try simp only [ByteArray.size_append]); omega)
              obtain ⟨-, -, -, p0, p1, p2, p3⟩ := HSc.out
              go_upto_region 11 with fail
              refine wp_region_E 999 (S := fun u => Sx w u B p t y o) hmo (HSc.out.below (Below.refl _ _).drew) (fun hS => ?_)
              refine wpAnyE_takeD (L := 999) (i := 0) (v := .string U) (some 37) rfl rfl (by kernel_rfl) (by kernel_rfl) (by kernel_rfl) (by kernel_rfl) (fun _ _ _ h => h) (Or.inl ⟨by kernel_rfl, by intro u hSu; go_simp⟩) hS ?_
              try simp only [Act.put, List.setIfInBounds_toArray, List.set_cons_zero, List.set_cons_succ]
              refine wpAnyE_takeD (L := 999) (i := 1) (v := .string (U ++ blk)) (some 38) rfl rfl (by kernel_rfl) (by kernel_rfl) (by kernel_rfl) (by kernel_rfl) (fun _ _ _ h => h) (Or.inl ⟨by kernel_rfl, by intro u hSu; go_simp⟩) hS ?_
              try simp only [Act.put, List.setIfInBounds_toArray, List.set_cons_zero, List.set_cons_succ]
              refine wpAnyE_takeD (L := 999) (i := 2) (v := .pointer (some ⟨B, 2, none⟩)) (some 39) rfl rfl (by kernel_rfl) (by kernel_rfl) (by kernel_rfl) (by kernel_rfl) (fun _ _ _ h => h) (Or.inl ⟨by kernel_rfl, by intro u hSu; go_simp⟩) hS ?_
              try simp only [Act.put, List.setIfInBounds_toArray, List.set_cons_zero, List.set_cons_succ]
              refine wpAnyE_takeD (L := 999) (i := 3) (v := .int .i64 (y : Int)) (some 40) rfl rfl (by kernel_rfl) (by kernel_rfl) (by kernel_rfl) (by kernel_rfl) (fun _ _ _ h => h) (Or.inl ⟨by kernel_rfl, by intro u hSu; obtain ⟨-, -, -, p0, p1, p2, p3⟩ := hSu; go_simp⟩) hS ?_
              try simp only [Act.put, List.setIfInBounds_toArray, List.set_cons_zero, List.set_cons_succ]
              refine wpAnyE_takeD (L := 999) (i := 7) (v := .pointer (some ⟨B, 3, none⟩)) (some 44) rfl rfl (by kernel_rfl) (by kernel_rfl) (by kernel_rfl) (by kernel_rfl) (fun _ _ _ h => h) (Or.inl ⟨by kernel_rfl, by intro u hSu; go_simp⟩) hS ?_
              try simp only [Act.put, List.setIfInBounds_toArray, List.set_cons_zero, List.set_cons_succ]
              refine wpAnyE_takeD (L := 999) (i := 8) (v := .int .i64 (o : Int)) (some 45) rfl rfl (by kernel_rfl) (by kernel_rfl) (by kernel_rfl) (by kernel_rfl) (fun _ _ _ h => h) (Or.inl ⟨by kernel_rfl, by intro u hSu; obtain ⟨-, -, -, p0, p1, p2, p3⟩ := hSu; go_simp⟩) hS ?_
              try simp only [Act.put, List.setIfInBounds_toArray, List.set_cons_zero, List.set_cons_succ]
              refine wpAnyE_ready (rs := [4]) (by kernel_rfl) (by simp) ?_
              refine AllReadyE.cons rfl (fun K9 hK => ?_) AllReadyE.nil
              go_simp
              refine (l7Digits_any y (by omega) _).mono ?_
              rintro e wy ⟨rfl, hby⟩
              refine hK.out _ _ (hS.below hby) (fun hS9 => ?_)
              try simp only [Act.put, List.setIfInBounds_toArray, List.set_cons_zero, List.set_cons_succ]
              clear hK K9 hS
              have hS := hS9
              clear hS9
              clear hby
              refine wpAnyE_takeD (L := 999) (i := 5) (v := .string (U ++ blk ++ dg y)) (some 42) rfl rfl (by kernel_rfl) (by kernel_rfl) (by kernel_rfl) (by kernel_rfl) (fun _ _ _ h => h) (Or.inl ⟨by kernel_rfl, by intro u hSu; go_simp⟩) hS ?_
              try simp only [Act.put, List.setIfInBounds_toArray, List.set_cons_zero, List.set_cons_succ]
              refine wpAnyE_takeD (L := 999) (i := 6) (v := .string (U ++ blk ++ dg y ++ col)) (some 43) rfl rfl (by kernel_rfl) (by kernel_rfl) (by kernel_rfl) (by kernel_rfl) (fun _ _ _ h => h) (Or.inl ⟨by kernel_rfl, by intro u hSu; go_simp⟩) hS ?_
              try simp only [Act.put, List.setIfInBounds_toArray, List.set_cons_zero, List.set_cons_succ]
              refine wpAnyE_ready (rs := [9]) (by kernel_rfl) (by simp) ?_
              refine AllReadyE.cons rfl (fun K9 hK => ?_) AllReadyE.nil
              go_simp
              refine (l7Digits_any o (by omega) _).mono ?_
              rintro e wo ⟨rfl, hbo⟩
              refine hK.out _ _ (hS.below hbo) (fun hS9 => ?_)
              try simp only [Act.put, List.setIfInBounds_toArray, List.set_cons_zero, List.set_cons_succ]
              clear hK K9 hS
              have hS := hS9
              clear hS9
              clear hbo
              refine wpAnyE_takeD (L := 999) (i := 10) (v := .string (U ++ blk ++ dg y ++ col ++ dg o)) (some 47) rfl rfl (by kernel_rfl) (by kernel_rfl) (by kernel_rfl) (by kernel_rfl) (fun _ _ _ h => h) (Or.inl ⟨by kernel_rfl, by intro u hSu; go_simp⟩) hS ?_
              try simp only [Act.put, List.setIfInBounds_toArray, List.set_cons_zero, List.set_cons_succ]
              refine wpAnyE_takeD (L := 999) (i := 11) (v := .string (U ++ blk ++ dg y ++ col ++ dg o)) (some 4) rfl rfl (by kernel_rfl) (by kernel_rfl) (by kernel_rfl) (by kernel_rfl) (fun _ _ _ h => h) (Or.inl ⟨by kernel_rfl, by intro u hSu; go_simp⟩) hS ?_
              try simp only [Act.put, List.setIfInBounds_toArray, List.set_cons_zero, List.set_cons_succ]
              clear p0 p1 p2 p3
              have hSo := hS
              refine wpAnyE_done (by kernel_rfl) ?_ _
              go_simp
              have hx5 : ∀ u : World, (Op.stringOp .add (U ++ blk ++ dg y ++ col ++ dg o) ⟨#[10]⟩).run Tryd.prog u = .ok (.string ((U ++ blk ++ dg y ++ col ++ dg o) ++ nl)) u := fun u => run_string_add_sum u _ nl (by have e1 : nl.size = 1 := rfl; have e2 : blk.size = 1 := rfl; have e3 : col.size = 1 := rfl; (try simp only [ByteArray.size_append]); omega)
              obtain ⟨hbz, hx2, hfz, p0, p1, p2, p3⟩ := hSo
              have HBZ : Hid (Below w.heap.size w wo) := hbz
              have HXZ : Hid (Box2 wo w.heap.size (.int .i64 0) (.string ⟨#[]⟩) ∧ ∀ i, wo.frozen? ⟨w.heap.size, i, none⟩ = false) := ⟨hx2, hfz⟩
              clear hbz hx2 hfz
              go_wp2_with fail
              go_roundw
              case rel => exact ⟨q + 1, hlt, by go_num, HBZ, HXZ, by rw [HNX.out, HAP.out]⟩
              case measure => simp [intOf]; omega
            · have hc1 : ((p : Int) + 1 == 2) = false := by simp; omega
              by_cases h2 : p = 2
              · have hc2 : ((p : Int) + 1 == 3) = true := by simp; omega
                have HAP : Hid (T ++ ht ⟨(p : Int) + 1, t, y, o⟩ = U ++ blk ++ dg y ++ nl) := by
                  show T ++ ht ⟨(p : Int) + 1, t, y, o⟩ = _
                  rw [ht_cases p t y o, if_neg h1, if_pos h2]
                  have h := HU.out (blk ++ (dg y ++ nl))
                  simp only [T15, ByteArray.append_assoc] at h ⊢
                  exact h
                clear h1 h2
                have hx1 : ∀ u : World, (Op.stringOp .add U ⟨#[32]⟩).run Tryd.prog u = .ok (.string (U ++ blk)) u := fun u => run_string_add_sum u _ blk (by have e2 : blk.size = 1 := rfl; (try simp only [ByteArray.size_append]); omega)
                have hx2 : ∀ u : World, (Op.stringOp .add (U ++ blk) (dg y)).run Tryd.prog u = .ok (.string (U ++ blk ++ dg y)) u := fun u => run_string_add_sum u _ _ (by have e2 : blk.size = 1 := rfl; (try simp only [ByteArray.size_append]); omega)
                obtain ⟨-, -, -, p0, p1, p2, p3⟩ := HSc.out
                go_wp2_with fail
                refine (l7Digits_any y (by omega) _).mono ?_
                rintro e wy ⟨rfl, hby⟩
                have hSo := HSc.out.below hby
                clear hby p0 p1 p2 p3
                have hx5 : ∀ u : World, (Op.stringOp .add (U ++ blk ++ dg y) ⟨#[10]⟩).run Tryd.prog u = .ok (.string ((U ++ blk ++ dg y) ++ nl)) u := fun u => run_string_add_sum u _ nl (by have e1 : nl.size = 1 := rfl; have e2 : blk.size = 1 := rfl; have e3 : col.size = 1 := rfl; (try simp only [ByteArray.size_append]); omega)
                obtain ⟨hbz, hx2, hfz, p0, p1, p2, p3⟩ := hSo
                have HBZ : Hid (Below w.heap.size w wy) := hbz
                have HXZ : Hid (Box2 wy w.heap.size (.int .i64 0) (.string ⟨#[]⟩) ∧ ∀ i, wy.frozen? ⟨w.heap.size, i, none⟩ = false) := ⟨hx2, hfz⟩
                clear hbz hx2 hfz
                go_wp2_with fail
                go_roundw
                case rel => exact ⟨q + 1, hlt, by go_num, HBZ, HXZ, by rw [HNX.out, HAP.out]⟩
                case measure => simp [intOf]; omega
              · have hc2 : ((p : Int) + 1 == 3) = false := by simp; omega
                have HAP : Hid (T ++ ht ⟨(p : Int) + 1, t, y, o⟩ = U ++ nl) := by
                  show T ++ ht ⟨(p : Int) + 1, t, y, o⟩ = _
                  rw [ht_cases p t y o, if_neg h1, if_neg h2]
                  have h := HU.out nl
                  simp only [T15, ByteArray.append_assoc] at h ⊢
                  exact h
                clear h1 h2
                have hSo := HSc.out
                have hx5 : ∀ u : World, (Op.stringOp .add U ⟨#[10]⟩).run Tryd.prog u = .ok (.string (U ++ nl)) u := fun u => run_string_add_sum u _ nl (by have e1 : nl.size = 1 := rfl; have e2 : blk.size = 1 := rfl; have e3 : col.size = 1 := rfl; (try simp only [ByteArray.size_append]); omega)
                obtain ⟨hbz, hx2, hfz, p0, p1, p2, p3⟩ := hSo
                have HBZ : Hid (Below w.heap.size w w6) := hbz
                have HXZ : Hid (Box2 w6 w.heap.size (.int .i64 0) (.string ⟨#[]⟩) ∧ ∀ i, w6.frozen? ⟨w.heap.size, i, none⟩ = false) := ⟨hx2, hfz⟩
                clear hbz hx2 hfz
                go_wp2_with fail
                go_roundw
                case rel => exact ⟨q + 1, hlt, by go_num, HBZ, HXZ, by rw [HNX.out, HAP.out]⟩
                case measure => simp [intOf]; omega
          · go_simp
            refine (l7Digits_any t (by omega) _).mono ?_
            rintro e w6 ⟨rfl, hb6⟩
            have hx8 : w6.cell? ⟨w5.heap.size, p + 1, none⟩ = some (.string (lt5 (p + 1))) := (hb6.cell (p := ⟨w5.heap.size, p + 1, none⟩) (by simp)).trans hx9
            refine hK.out _ _ (hS.below hb6) (fun hS9 => ?_)
            try simp only [Act.put, List.setIfInBounds_toArray, List.set_cons_zero, List.set_cons_succ]
            clear hK K9 hS
            have hS := hS9
            clear hS9
            clear hb6
            refine wpAnyE_ready (rs := [5]) (by kernel_rfl) (by simp) ?_
            refine AllReadyE.cons rfl (fun K9 hK => ?_) AllReadyE.nil
            go_simp
            refine hK.out _ _ (hS) (fun hS9 => ?_)
            try simp only [Act.put, List.setIfInBounds_toArray, List.set_cons_zero, List.set_cons_succ]
            clear hK K9 hS
            have hS := hS9
            clear hS9
            clear hx8 hx9
            refine wpAnyE_takeD (L := 999) (i := 6) (v := .string (T ++ lt5 (p + 1))) (some 29) rfl rfl (by kernel_rfl) (by kernel_rfl) (by kernel_rfl) (by kernel_rfl) (fun _ _ _ h => h) (Or.inl ⟨by kernel_rfl, by intro u hSu; go_simp⟩) hS ?_
            try simp only [Act.put, List.setIfInBounds_toArray, List.set_cons_zero, List.set_cons_succ]
            refine wpAnyE_takeD (L := 999) (i := 10) (v := .string (T ++ lt5 (p + 1) ++ dg t)) (some 33) rfl rfl (by kernel_rfl) (by kernel_rfl) (by kernel_rfl) (by kernel_rfl) (fun _ _ _ h => h) (Or.inl ⟨by kernel_rfl, by intro u hSu; go_simp⟩) hS ?_
            try simp only [Act.put, List.setIfInBounds_toArray, List.set_cons_zero, List.set_cons_succ]
            refine wpAnyE_takeD (L := 999) (i := 11) (v := .string (T ++ lt5 (p + 1) ++ dg t)) (some 4) rfl rfl (by kernel_rfl) (by kernel_rfl) (by kernel_rfl) (by kernel_rfl) (fun _ _ _ h => h) (Or.inl ⟨by kernel_rfl, by intro u hSu; go_simp⟩) hS ?_
            try simp only [Act.put, List.setIfInBounds_toArray, List.set_cons_zero, List.set_cons_succ]
            have hSe := hS
            refine wpAnyE_done (by kernel_rfl) ?_ _
            go_simp
            have HSc : Hid (Sx w w6 B p t y o) := hSe
            clear hSe
            have HU : Hid (∀ X : ByteArray, T ++ (T15 p t ++ X) = T ++ lt5 (p + 1) ++ dg t ++ X) := fun X => by simp only [T15, ByteArray.append_assoc]
            have hus : (T ++ lt5 (p + 1) ++ dg t).size ≤ 28100 := by simp only [ByteArray.size_append]; omega
            clear ha1 ha2
            generalize T ++ lt5 (p + 1) ++ dg t = U at *
            by_cases h1 : p = 1
            · have hc1 : ((p : Int) + 1 == 2) = true := by simp; omega
              have hc2 : ((p : Int) + 1 == 3) = false := by simp; omega
              have HAP : Hid (T ++ ht ⟨(p : Int) + 1, t, y, o⟩ = U ++ blk ++ dg y ++ col ++ dg o ++ nl) := by
                show T ++ ht ⟨(p : Int) + 1, t, y, o⟩ = _
                rw [ht_cases p t y o, if_pos h1]
                have h := HU.out (blk ++ (dg y ++ (col ++ (dg o ++ nl))))
                simp only [T15, ByteArray.append_assoc] at h ⊢
                exact h
              clear h1
              have hx1 : ∀ u : World, (Op.stringOp .add U ⟨#[32]⟩).run Tryd.prog u = .ok (.string (U ++ blk)) u := fun u => run_string_add_sum u _ blk (by have e2 : blk.size = 1 := rfl; (try simp only [ByteArray.size_append]); omega)
              have hx2 : ∀ u : World, (Op.stringOp .add (U ++ blk) (dg y)).run Tryd.prog u = .ok (.string (U ++ blk ++ dg y)) u := fun u => run_string_add_sum u _ _ (by have e2 : blk.size = 1 := rfl; (try simp only [ByteArray.size_append]); omega)
              have hx3 : ∀ u : World, (Op.stringOp .add (U ++ blk ++ dg y) ⟨#[58]⟩).run Tryd.prog u = .ok (.string (U ++ blk ++ dg y ++ col)) u := fun u => run_string_add_sum u _ col (by have e2 : blk.size = 1 := rfl; have e3 : col.size = 1 := rfl; (try simp only [ByteArray.size_append]); omega)
              have hx4 : ∀ u : World, (Op.stringOp .add (U ++ blk ++ dg y ++ col) (dg o)).run Tryd.prog u = .ok (.string (U ++ blk ++ dg y ++ col ++ dg o)) u := fun u => run_string_add_sum u _ _ (by have e2 : blk.size = 1 := rfl; have e3 : col.size = 1 := rfl; (try simp only [ByteArray.size_append]); omega)
              obtain ⟨-, -, -, p0, p1, p2, p3⟩ := HSc.out
              go_upto_region 11 with fail
              refine wp_region_E 999 (S := fun u => Sx w u B p t y o) hmo (HSc.out.below (Below.refl _ _).drew) (fun hS => ?_)
              refine wpAnyE_takeD (L := 999) (i := 0) (v := .string U) (some 37) rfl rfl (by kernel_rfl) (by kernel_rfl) (by kernel_rfl) (by kernel_rfl) (fun _ _ _ h => h) (Or.inl ⟨by kernel_rfl, by intro u hSu; go_simp⟩) hS ?_
              try simp only [Act.put, List.setIfInBounds_toArray, List.set_cons_zero, List.set_cons_succ]
              refine wpAnyE_takeD (L := 999) (i := 1) (v := .string (U ++ blk)) (some 38) rfl rfl (by kernel_rfl) (by kernel_rfl) (by kernel_rfl) (by kernel_rfl) (fun _ _ _ h => h) (Or.inl ⟨by kernel_rfl, by intro u hSu; go_simp⟩) hS ?_
              try simp only [Act.put, List.setIfInBounds_toArray, List.set_cons_zero, List.set_cons_succ]
              refine wpAnyE_takeD (L := 999) (i := 2) (v := .pointer (some ⟨B, 2, none⟩)) (some 39) rfl rfl (by kernel_rfl) (by kernel_rfl) (by kernel_rfl) (by kernel_rfl) (fun _ _ _ h => h) (Or.inl ⟨by kernel_rfl, by intro u hSu; go_simp⟩) hS ?_
              try simp only [Act.put, List.setIfInBounds_toArray, List.set_cons_zero, List.set_cons_succ]
              refine wpAnyE_takeD (L := 999) (i := 3) (v := .int .i64 (y : Int)) (some 40) rfl rfl (by kernel_rfl) (by kernel_rfl) (by kernel_rfl) (by kernel_rfl) (fun _ _ _ h => h) (Or.inl ⟨by kernel_rfl, by intro u hSu; obtain ⟨-, -, -, p0, p1, p2, p3⟩ := hSu; go_simp⟩) hS ?_
              try simp only [Act.put, List.setIfInBounds_toArray, List.set_cons_zero, List.set_cons_succ]
              refine wpAnyE_takeD (L := 999) (i := 7) (v := .pointer (some ⟨B, 3, none⟩)) (some 44) rfl rfl (by kernel_rfl) (by kernel_rfl) (by kernel_rfl) (by kernel_rfl) (fun _ _ _ h => h) (Or.inl ⟨by kernel_rfl, by intro u hSu; go_simp⟩) hS ?_
              try simp only [Act.put, List.setIfInBounds_toArray, List.set_cons_zero, List.set_cons_succ]
              refine wpAnyE_takeD (L := 999) (i := 8) (v := .int .i64 (o : Int)) (some 45) rfl rfl (by kernel_rfl) (by kernel_rfl) (by kernel_rfl) (by kernel_rfl) (fun _ _ _ h => h) (Or.inl ⟨by kernel_rfl, by intro u hSu; obtain ⟨-, -, -, p0, p1, p2, p3⟩ := hSu; go_simp⟩) hS ?_
              try simp only [Act.put, List.setIfInBounds_toArray, List.set_cons_zero, List.set_cons_succ]
              refine wpAnyE_ready (rs := [4]) (by kernel_rfl) (by simp) ?_
              refine AllReadyE.cons rfl (fun K9 hK => ?_) AllReadyE.nil
              go_simp
              refine (l7Digits_any y (by omega) _).mono ?_
              rintro e wy ⟨rfl, hby⟩
              refine hK.out _ _ (hS.below hby) (fun hS9 => ?_)
              try simp only [Act.put, List.setIfInBounds_toArray, List.set_cons_zero, List.set_cons_succ]
              clear hK K9 hS
              have hS := hS9
              clear hS9
              clear hby
              refine wpAnyE_takeD (L := 999) (i := 5) (v := .string (U ++ blk ++ dg y)) (some 42) rfl rfl (by kernel_rfl) (by kernel_rfl) (by kernel_rfl) (by kernel_rfl) (fun _ _ _ h => h) (Or.inl ⟨by kernel_rfl, by intro u hSu; go_simp⟩) hS ?_
              try simp only [Act.put, List.setIfInBounds_toArray, List.set_cons_zero, List.set_cons_succ]
              refine wpAnyE_takeD (L := 999) (i := 6) (v := .string (U ++ blk ++ dg y ++ col)) (some 43) rfl rfl (by kernel_rfl) (by kernel_rfl) (by kernel_rfl) (by kernel_rfl) (fun _ _ _ h => h) (Or.inl ⟨by kernel_rfl, by intro u hSu; go_simp⟩) hS ?_
              try simp only [Act.put, List.setIfInBounds_toArray, List.set_cons_zero, List.set_cons_succ]
              refine wpAnyE_ready (rs := [9]) (by kernel_rfl) (by simp) ?_
              refine AllReadyE.cons rfl (fun K9 hK => ?_) AllReadyE.nil
              go_simp
              refine (l7Digits_any o (by omega) _).mono ?_
              rintro e wo ⟨rfl, hbo⟩
              refine hK.out _ _ (hS.below hbo) (fun hS9 => ?_)
              try simp only [Act.put, List.setIfInBounds_toArray, List.set_cons_zero, List.set_cons_succ]
              clear hK K9 hS
              have hS := hS9
              clear hS9
              clear hbo
              refine wpAnyE_takeD (L := 999) (i := 10) (v := .string (U ++ blk ++ dg y ++ col ++ dg o)) (some 47) rfl rfl (by kernel_rfl) (by kernel_rfl) (by kernel_rfl) (by kernel_rfl) (fun _ _ _ h => h) (Or.inl ⟨by kernel_rfl, by intro u hSu; go_simp⟩) hS ?_
              try simp only [Act.put, List.setIfInBounds_toArray, List.set_cons_zero, List.set_cons_succ]
              refine wpAnyE_takeD (L := 999) (i := 11) (v := .string (U ++ blk ++ dg y ++ col ++ dg o)) (some 4) rfl rfl (by kernel_rfl) (by kernel_rfl) (by kernel_rfl) (by kernel_rfl) (fun _ _ _ h => h) (Or.inl ⟨by kernel_rfl, by intro u hSu; go_simp⟩) hS ?_
              try simp only [Act.put, List.setIfInBounds_toArray, List.set_cons_zero, List.set_cons_succ]
              clear p0 p1 p2 p3
              have hSo := hS
              refine wpAnyE_done (by kernel_rfl) ?_ _
              go_simp
              have hx5 : ∀ u : World, (Op.stringOp .add (U ++ blk ++ dg y ++ col ++ dg o) ⟨#[10]⟩).run Tryd.prog u = .ok (.string ((U ++ blk ++ dg y ++ col ++ dg o) ++ nl)) u := fun u => run_string_add_sum u _ nl (by have e1 : nl.size = 1 := rfl; have e2 : blk.size = 1 := rfl; have e3 : col.size = 1 := rfl; (try simp only [ByteArray.size_append]); omega)
              obtain ⟨hbz, hx2, hfz, p0, p1, p2, p3⟩ := hSo
              have HBZ : Hid (Below w.heap.size w wo) := hbz
              have HXZ : Hid (Box2 wo w.heap.size (.int .i64 0) (.string ⟨#[]⟩) ∧ ∀ i, wo.frozen? ⟨w.heap.size, i, none⟩ = false) := ⟨hx2, hfz⟩
              clear hbz hx2 hfz
              go_wp2_with fail
              go_roundw
              case rel => exact ⟨q + 1, hlt, by go_num, HBZ, HXZ, by rw [HNX.out, HAP.out]⟩
              case measure => simp [intOf]; omega
            · have hc1 : ((p : Int) + 1 == 2) = false := by simp; omega
              by_cases h2 : p = 2
              · have hc2 : ((p : Int) + 1 == 3) = true := by simp; omega
                have HAP : Hid (T ++ ht ⟨(p : Int) + 1, t, y, o⟩ = U ++ blk ++ dg y ++ nl) := by
                  show T ++ ht ⟨(p : Int) + 1, t, y, o⟩ = _
                  rw [ht_cases p t y o, if_neg h1, if_pos h2]
                  have h := HU.out (blk ++ (dg y ++ nl))
                  simp only [T15, ByteArray.append_assoc] at h ⊢
                  exact h
                clear h1 h2
                have hx1 : ∀ u : World, (Op.stringOp .add U ⟨#[32]⟩).run Tryd.prog u = .ok (.string (U ++ blk)) u := fun u => run_string_add_sum u _ blk (by have e2 : blk.size = 1 := rfl; (try simp only [ByteArray.size_append]); omega)
                have hx2 : ∀ u : World, (Op.stringOp .add (U ++ blk) (dg y)).run Tryd.prog u = .ok (.string (U ++ blk ++ dg y)) u := fun u => run_string_add_sum u _ _ (by have e2 : blk.size = 1 := rfl; (try simp only [ByteArray.size_append]); omega)
                obtain ⟨-, -, -, p0, p1, p2, p3⟩ := HSc.out
                go_wp2_with fail
                refine (l7Digits_any y (by omega) _).mono ?_
                rintro e wy ⟨rfl, hby⟩
                have hSo := HSc.out.below hby
                clear hby p0 p1 p2 p3
                have hx5 : ∀ u : World, (Op.stringOp .add (U ++ blk ++ dg y) ⟨#[10]⟩).run Tryd.prog u = .ok (.string ((U ++ blk ++ dg y) ++ nl)) u := fun u => run_string_add_sum u _ nl (by have e1 : nl.size = 1 := rfl; have e2 : blk.size = 1 := rfl; have e3 : col.size = 1 := rfl; (try simp only [ByteArray.size_append]); omega)
                obtain ⟨hbz, hx2, hfz, p0, p1, p2, p3⟩ := hSo
                have HBZ : Hid (Below w.heap.size w wy) := hbz
                have HXZ : Hid (Box2 wy w.heap.size (.int .i64 0) (.string ⟨#[]⟩) ∧ ∀ i, wy.frozen? ⟨w.heap.size, i, none⟩ = false) := ⟨hx2, hfz⟩
                clear hbz hx2 hfz
                go_wp2_with fail
                go_roundw
                case rel => exact ⟨q + 1, hlt, by go_num, HBZ, HXZ, by rw [HNX.out, HAP.out]⟩
                case measure => simp [intOf]; omega
              · have hc2 : ((p : Int) + 1 == 3) = false := by simp; omega
                have HAP : Hid (T ++ ht ⟨(p : Int) + 1, t, y, o⟩ = U ++ nl) := by
                  show T ++ ht ⟨(p : Int) + 1, t, y, o⟩ = _
                  rw [ht_cases p t y o, if_neg h1, if_neg h2]
                  have h := HU.out nl
                  simp only [T15, ByteArray.append_assoc] at h ⊢
                  exact h
                clear h1 h2
                have hSo := HSc.out
                have hx5 : ∀ u : World, (Op.stringOp .add U ⟨#[10]⟩).run Tryd.prog u = .ok (.string (U ++ nl)) u := fun u => run_string_add_sum u _ nl (by have e1 : nl.size = 1 := rfl; have e2 : blk.size = 1 := rfl; have e3 : col.size = 1 := rfl; (try simp only [ByteArray.size_append]); omega)
                obtain ⟨hbz, hx2, hfz, p0, p1, p2, p3⟩ := hSo
                have HBZ : Hid (Below w.heap.size w w6) := hbz
                have HXZ : Hid (Box2 w6 w.heap.size (.int .i64 0) (.string ⟨#[]⟩) ∧ ∀ i, w6.frozen? ⟨w.heap.size, i, none⟩ = false) := ⟨hx2, hfz⟩
                clear hbz hx2 hfz
                go_wp2_with fail
                go_roundw
                case rel => exact ⟨q + 1, hlt, by go_num, HBZ, HXZ, by rw [HNX.out, HAP.out]⟩
                case measure => simp [intOf]; omega
        · go_simp
          refine (l7Digits_any t (by omega) _).mono ?_
          rintro e w6 ⟨rfl, hb6⟩
          refine hK.out _ _ (hS.below hb6) (fun hS9 => ?_)
          try simp only [Act.put, List.setIfInBounds_toArray, List.set_cons_zero, List.set_cons_succ]
          clear hK K9 hS
          have hS := hS9
          clear hS9
          clear hb6
          have hx9 := lit5 w6 9 (p + 1) (by omega)
          refine wpAnyE_ready (rs := [1]) (by kernel_rfl) (by simp) ?_
          refine AllReadyE.cons rfl (fun K9 hK => ?_) AllReadyE.nil
          go_simp
          refine hK.out _ _ (hS.below (below_new _ _)) (fun hS9 => ?_)
          try simp only [Act.put, List.setIfInBounds_toArray, List.set_cons_zero, List.set_cons_succ]
          clear hK K9 hS
          have hS := hS9
          clear hS9
          refine wpAnyE_takeD (L := 999) (i := 4) (v := .pointer (some ⟨w6.heap.size, p + 1, none⟩)) (some 27) rfl rfl (by kernel_rfl) (by kernel_rfl) (by kernel_rfl) (by kernel_rfl) (fun _ _ _ h => h) (Or.inl ⟨by kernel_rfl, by intro u hSu; go_simp⟩) hS ?_
          try simp only [Act.put, List.setIfInBounds_toArray, List.set_cons_zero, List.set_cons_succ]
          refine wpAnyE_ready (rs := [5]) (by kernel_rfl) (by simp) ?_
          refine AllReadyE.cons rfl (fun K9 hK => ?_) AllReadyE.nil
          go_simp
          refine hK.out _ _ (hS) (fun hS9 => ?_)
          try simp only [Act.put, List.setIfInBounds_toArray, List.set_cons_zero, List.set_cons_succ]
          clear hK K9 hS
          have hS := hS9
          clear hS9
          generalize (w6.alloc (.cells #[.string ⟨#[]⟩, .string ⟨#[98]⟩, .string ⟨#[114]⟩, .string ⟨#[119]⟩, .string ⟨#[99]⟩, .string ⟨#[97]⟩] 9)) = w7 at *
          clear hx9
          refine wpAnyE_takeD (L := 999) (i := 6) (v := .string (T ++ lt5 (p + 1))) (some 29) rfl rfl (by kernel_rfl) (by kernel_rfl) (by kernel_rfl) (by kernel_rfl) (fun _ _ _ h => h) (Or.inl ⟨by kernel_rfl, by intro u hSu; go_simp⟩) hS ?_
          try simp only [Act.put, List.setIfInBounds_toArray, List.set_cons_zero, List.set_cons_succ]
          refine wpAnyE_takeD (L := 999) (i := 10) (v := .string (T ++ lt5 (p + 1) ++ dg t)) (some 33) rfl rfl (by kernel_rfl) (by kernel_rfl) (by kernel_rfl) (by kernel_rfl) (fun _ _ _ h => h) (Or.inl ⟨by kernel_rfl, by intro u hSu; go_simp⟩) hS ?_
          try simp only [Act.put, List.setIfInBounds_toArray, List.set_cons_zero, List.set_cons_succ]
          refine wpAnyE_takeD (L := 999) (i := 11) (v := .string (T ++ lt5 (p + 1) ++ dg t)) (some 4) rfl rfl (by kernel_rfl) (by kernel_rfl) (by kernel_rfl) (by kernel_rfl) (fun _ _ _ h => h) (Or.inl ⟨by kernel_rfl, by intro u hSu; go_simp⟩) hS ?_
          try simp only [Act.put, List.setIfInBounds_toArray, List.set_cons_zero, List.set_cons_succ]
          have hSe := hS
          refine wpAnyE_done (by kernel_rfl) ?_ _
          go_simp
          have HSc : Hid (Sx w w7 B p t y o) := hSe
          clear hSe
          have HU : Hid (∀ X : ByteArray, T ++ (T15 p t ++ X) = T ++ lt5 (p + 1) ++ dg t ++ X) := fun X => by simp only [T15, ByteArray.append_assoc]
          have hus : (T ++ lt5 (p + 1) ++ dg t).size ≤ 28100 := by simp only [ByteArray.size_append]; omega
          clear ha1 ha2
          generalize T ++ lt5 (p + 1) ++ dg t = U at *
          by_cases h1 : p = 1
          · have hc1 : ((p : Int) + 1 == 2) = true := by simp; omega
            have hc2 : ((p : Int) + 1 == 3) = false := by simp; omega
            have HAP : Hid (T ++ ht ⟨(p : Int) + 1, t, y, o⟩ = U ++ blk ++ dg y ++ col ++ dg o ++ nl) := by
              show T ++ ht ⟨(p : Int) + 1, t, y, o⟩ = _
              rw [ht_cases p t y o, if_pos h1]
              have h := HU.out (blk ++ (dg y ++ (col ++ (dg o ++ nl))))
              simp only [T15, ByteArray.append_assoc] at h ⊢
              exact h
            clear h1
            have hx1 : ∀ u : World, (Op.stringOp .add U ⟨#[32]⟩).run Tryd.prog u = .ok (.string (U ++ blk)) u := fun u => run_string_add_sum u _ blk (by have e2 : blk.size = 1 := rfl; (try simp only [ByteArray.size_append]); omega)
            have hx2 : ∀ u : World, (Op.stringOp .add (U ++ blk) (dg y)).run Tryd.prog u = .ok (.string (U ++ blk ++ dg y)) u := fun u => run_string_add_sum u _ _ (by have e2 : blk.size = 1 := rfl; (try simp only [ByteArray.size_append]); omega)
            have hx3 : ∀ u : World, (Op.stringOp .add (U ++ blk ++ dg y) ⟨#[58]⟩).run Tryd.prog u = .ok (.string (U ++ blk ++ dg y ++ col)) u := fun u => run_string_add_sum u _ col (by have e2 : blk.size = 1 := rfl; have e3 : col.size = 1 := rfl; (try simp only [ByteArray.size_append]); omega)
            have hx4 : ∀ u : World, (Op.stringOp .add (U ++ blk ++ dg y ++ col) (dg o)).run Tryd.prog u = .ok (.string (U ++ blk ++ dg y ++ col ++ dg o)) u := fun u => run_string_add_sum u _ _ (by have e2 : blk.size = 1 := rfl; have e3 : col.size = 1 := rfl; (try simp only [ByteArray.size_append]); omega)
            obtain ⟨-, -, -, p0, p1, p2, p3⟩ := HSc.out
            go_upto_region 11 with fail
            refine wp_region_E 999 (S := fun u => Sx w u B p t y o) hmo (HSc.out.below (Below.refl _ _).drew) (fun hS => ?_)
            refine wpAnyE_takeD (L := 999) (i := 0) (v := .string U) (some 37) rfl rfl (by kernel_rfl) (by kernel_rfl) (by kernel_rfl) (by kernel_rfl) (fun _ _ _ h => h) (Or.inl ⟨by kernel_rfl, by intro u hSu; go_simp⟩) hS ?_
            try simp only [Act.put, List.setIfInBounds_toArray, List.set_cons_zero, List.set_cons_succ]
            refine wpAnyE_takeD (L := 999) (i := 1) (v := .string (U ++ blk)) (some 38) rfl rfl (by kernel_rfl) (by kernel_rfl) (by kernel_rfl) (by kernel_rfl) (fun _ _ _ h => h) (Or.inl ⟨by kernel_rfl, by intro u hSu; go_simp⟩) hS ?_
            try simp only [Act.put, List.setIfInBounds_toArray, List.set_cons_zero, List.set_cons_succ]
            refine wpAnyE_takeD (L := 999) (i := 2) (v := .pointer (some ⟨B, 2, none⟩)) (some 39) rfl rfl (by kernel_rfl) (by kernel_rfl) (by kernel_rfl) (by kernel_rfl) (fun _ _ _ h => h) (Or.inl ⟨by kernel_rfl, by intro u hSu; go_simp⟩) hS ?_
            try simp only [Act.put, List.setIfInBounds_toArray, List.set_cons_zero, List.set_cons_succ]
            refine wpAnyE_takeD (L := 999) (i := 3) (v := .int .i64 (y : Int)) (some 40) rfl rfl (by kernel_rfl) (by kernel_rfl) (by kernel_rfl) (by kernel_rfl) (fun _ _ _ h => h) (Or.inl ⟨by kernel_rfl, by intro u hSu; obtain ⟨-, -, -, p0, p1, p2, p3⟩ := hSu; go_simp⟩) hS ?_
            try simp only [Act.put, List.setIfInBounds_toArray, List.set_cons_zero, List.set_cons_succ]
            refine wpAnyE_takeD (L := 999) (i := 7) (v := .pointer (some ⟨B, 3, none⟩)) (some 44) rfl rfl (by kernel_rfl) (by kernel_rfl) (by kernel_rfl) (by kernel_rfl) (fun _ _ _ h => h) (Or.inl ⟨by kernel_rfl, by intro u hSu; go_simp⟩) hS ?_
            try simp only [Act.put, List.setIfInBounds_toArray, List.set_cons_zero, List.set_cons_succ]
            refine wpAnyE_takeD (L := 999) (i := 8) (v := .int .i64 (o : Int)) (some 45) rfl rfl (by kernel_rfl) (by kernel_rfl) (by kernel_rfl) (by kernel_rfl) (fun _ _ _ h => h) (Or.inl ⟨by kernel_rfl, by intro u hSu; obtain ⟨-, -, -, p0, p1, p2, p3⟩ := hSu; go_simp⟩) hS ?_
            try simp only [Act.put, List.setIfInBounds_toArray, List.set_cons_zero, List.set_cons_succ]
            refine wpAnyE_ready (rs := [4]) (by kernel_rfl) (by simp) ?_
            refine AllReadyE.cons rfl (fun K9 hK => ?_) AllReadyE.nil
            go_simp
            refine (l7Digits_any y (by omega) _).mono ?_
            rintro e wy ⟨rfl, hby⟩
            refine hK.out _ _ (hS.below hby) (fun hS9 => ?_)
            try simp only [Act.put, List.setIfInBounds_toArray, List.set_cons_zero, List.set_cons_succ]
            clear hK K9 hS
            have hS := hS9
            clear hS9
            clear hby
            refine wpAnyE_takeD (L := 999) (i := 5) (v := .string (U ++ blk ++ dg y)) (some 42) rfl rfl (by kernel_rfl) (by kernel_rfl) (by kernel_rfl) (by kernel_rfl) (fun _ _ _ h => h) (Or.inl ⟨by kernel_rfl, by intro u hSu; go_simp⟩) hS ?_
            try simp only [Act.put, List.setIfInBounds_toArray, List.set_cons_zero, List.set_cons_succ]
            refine wpAnyE_takeD (L := 999) (i := 6) (v := .string (U ++ blk ++ dg y ++ col)) (some 43) rfl rfl (by kernel_rfl) (by kernel_rfl) (by kernel_rfl) (by kernel_rfl) (fun _ _ _ h => h) (Or.inl ⟨by kernel_rfl, by intro u hSu; go_simp⟩) hS ?_
            try simp only [Act.put, List.setIfInBounds_toArray, List.set_cons_zero, List.set_cons_succ]
            refine wpAnyE_ready (rs := [9]) (by kernel_rfl) (by simp) ?_
            refine AllReadyE.cons rfl (fun K9 hK => ?_) AllReadyE.nil
            go_simp
            refine (l7Digits_any o (by omega) _).mono ?_
            rintro e wo ⟨rfl, hbo⟩
            refine hK.out _ _ (hS.below hbo) (fun hS9 => ?_)
            try simp only [Act.put, List.setIfInBounds_toArray, List.set_cons_zero, List.set_cons_succ]
            clear hK K9 hS
            have hS := hS9
            clear hS9
            clear hbo
            refine wpAnyE_takeD (L := 999) (i := 10) (v := .string (U ++ blk ++ dg y ++ col ++ dg o)) (some 47) rfl rfl (by kernel_rfl) (by kernel_rfl) (by kernel_rfl) (by kernel_rfl) (fun _ _ _ h => h) (Or.inl ⟨by kernel_rfl, by intro u hSu; go_simp⟩) hS ?_
            try simp only [Act.put, List.setIfInBounds_toArray, List.set_cons_zero, List.set_cons_succ]
            refine wpAnyE_takeD (L := 999) (i := 11) (v := .string (U ++ blk ++ dg y ++ col ++ dg o)) (some 4) rfl rfl (by kernel_rfl) (by kernel_rfl) (by kernel_rfl) (by kernel_rfl) (fun _ _ _ h => h) (Or.inl ⟨by kernel_rfl, by intro u hSu; go_simp⟩) hS ?_
            try simp only [Act.put, List.setIfInBounds_toArray, List.set_cons_zero, List.set_cons_succ]
            clear p0 p1 p2 p3
            have hSo := hS
            refine wpAnyE_done (by kernel_rfl) ?_ _
            go_simp
            have hx5 : ∀ u : World, (Op.stringOp .add (U ++ blk ++ dg y ++ col ++ dg o) ⟨#[10]⟩).run Tryd.prog u = .ok (.string ((U ++ blk ++ dg y ++ col ++ dg o) ++ nl)) u := fun u => run_string_add_sum u _ nl (by have e1 : nl.size = 1 := rfl; have e2 : blk.size = 1 := rfl; have e3 : col.size = 1 := rfl; (try simp only [ByteArray.size_append]); omega)
            obtain ⟨hbz, hx2, hfz, p0, p1, p2, p3⟩ := hSo
            have HBZ : Hid (Below w.heap.size w wo) := hbz
            have HXZ : Hid (Box2 wo w.heap.size (.int .i64 0) (.string ⟨#[]⟩) ∧ ∀ i, wo.frozen? ⟨w.heap.size, i, none⟩ = false) := ⟨hx2, hfz⟩
            clear hbz hx2 hfz
            go_wp2_with fail
            go_roundw
            case rel => exact ⟨q + 1, hlt, by go_num, HBZ, HXZ, by rw [HNX.out, HAP.out]⟩
            case measure => simp [intOf]; omega
          · have hc1 : ((p : Int) + 1 == 2) = false := by simp; omega
            by_cases h2 : p = 2
            · have hc2 : ((p : Int) + 1 == 3) = true := by simp; omega
              have HAP : Hid (T ++ ht ⟨(p : Int) + 1, t, y, o⟩ = U ++ blk ++ dg y ++ nl) := by
                show T ++ ht ⟨(p : Int) + 1, t, y, o⟩ = _
                rw [ht_cases p t y o, if_neg h1, if_pos h2]
                have h := HU.out (blk ++ (dg y ++ nl))
                simp only [T15, ByteArray.append_assoc] at h ⊢
                exact h
              clear h1 h2
              have hx1 : ∀ u : World, (Op.stringOp .add U ⟨#[32]⟩).run Tryd.prog u = .ok (.string (U ++ blk)) u := fun u => run_string_add_sum u _ blk (by have e2 : blk.size = 1 := rfl; (try simp only [ByteArray.size_append]); omega)
              have hx2 : ∀ u : World, (Op.stringOp .add (U ++ blk) (dg y)).run Tryd.prog u = .ok (.string (U ++ blk ++ dg y)) u := fun u => run_string_add_sum u _ _ (by have e2 : blk.size = 1 := rfl; (try simp only [ByteArray.size_append]); omega)
              obtain ⟨-, -, -, p0, p1, p2, p3⟩ := HSc.out
              go_wp2_with fail
              refine (l7Digits_any y (by omega) _).mono ?_
              rintro e wy ⟨rfl, hby⟩
              have hSo := HSc.out.below hby
              clear hby p0 p1 p2 p3
              have hx5 : ∀ u : World, (Op.stringOp .add (U ++ blk ++ dg y) ⟨#[10]⟩).run Tryd.prog u = .ok (.string ((U ++ blk ++ dg y) ++ nl)) u := fun u => run_string_add_sum u _ nl (by have e1 : nl.size = 1 := rfl; have e2 : blk.size = 1 := rfl; have e3 : col.size = 1 := rfl; (try simp only [ByteArray.size_append]); omega)
              obtain ⟨hbz, hx2, hfz, p0, p1, p2, p3⟩ := hSo
              have HBZ : Hid (Below w.heap.size w wy) := hbz
              have HXZ : Hid (Box2 wy w.heap.size (.int .i64 0) (.string ⟨#[]⟩) ∧ ∀ i, wy.frozen? ⟨w.heap.size, i, none⟩ = false) := ⟨hx2, hfz⟩
              clear hbz hx2 hfz
              go_wp2_with fail
              go_roundw
              case rel => exact ⟨q + 1, hlt, by go_num, HBZ, HXZ, by rw [HNX.out, HAP.out]⟩
              case measure => simp [intOf]; omega
            · have hc2 : ((p : Int) + 1 == 3) = false := by simp; omega
              have HAP : Hid (T ++ ht ⟨(p : Int) + 1, t, y, o⟩ = U ++ nl) := by
                show T ++ ht ⟨(p : Int) + 1, t, y, o⟩ = _
                rw [ht_cases p t y o, if_neg h1, if_neg h2]
                have h := HU.out nl
                simp only [T15, ByteArray.append_assoc] at h ⊢
                exact h
              clear h1 h2
              have hSo := HSc.out
              have hx5 : ∀ u : World, (Op.stringOp .add U ⟨#[10]⟩).run Tryd.prog u = .ok (.string (U ++ nl)) u := fun u => run_string_add_sum u _ nl (by have e1 : nl.size = 1 := rfl; have e2 : blk.size = 1 := rfl; have e3 : col.size = 1 := rfl; (try simp only [ByteArray.size_append]); omega)
              obtain ⟨hbz, hx2, hfz, p0, p1, p2, p3⟩ := hSo
              have HBZ : Hid (Below w.heap.size w w7) := hbz
              have HXZ : Hid (Box2 w7 w.heap.size (.int .i64 0) (.string ⟨#[]⟩) ∧ ∀ i, w7.frozen? ⟨w.heap.size, i, none⟩ = false) := ⟨hx2, hfz⟩
              clear hbz hx2 hfz
              go_wp2_with fail
              go_roundw
              case rel => exact ⟨q + 1, hlt, by go_num, HBZ, HXZ, by rw [HNX.out, HAP.out]⟩
              case measure => simp [intOf]; omega
      · have hqn : q = n := by omega
        subst hqn
        have hge : ¬ (q : Int) < (q : Int) := by omega
        obtain ⟨⟨z0, z1⟩, zf⟩ := HX.out
        go_wp2_with fail
        refine bodyPost_ret (v := .agg #[.int .i64 0, .string (HTx R q)]) (by simp [results, Tryd.results5, go_sem, z0, z1]) rfl ?_
        refine ⟨by rw [HE.out.1, HE.out.2], ?_⟩
        repeat (first | with_reducible exact HB.out | with_reducible refine Below.setCell ?_ (by first | omega | (simp <;> omega)) _)
  · have htt := tt_no hc
    have HE : Hid (ttext R n = ByteArray.empty) := htt
    obtain ⟨z0, z1⟩ := X0
    have hcb : (hsC R n != 0) = true := by simp [hc]
    clear hc htt
    generalize hce : hsC R n = c at *
    have HCE : Hid (hsC R n = c) := hce
    clear hce
    go_wp2_with fail
    refine bodyPost_ret (v := .agg #[.int .i64 c, .string ⟨#[]⟩]) (by simp [results, Tryd.results5, go_sem, z0, z1]) rfl ?_
    refine ⟨by rw [HE.out, HCE.out]; rfl, ?_⟩
    repeat (first | with_reducible exact HB1.out | with_reducible refine Below.setCell ?_ (by first | omega | (simp <;> omega)) _)
end Go.Proofs.YtdgginfagbmooaaDoor
