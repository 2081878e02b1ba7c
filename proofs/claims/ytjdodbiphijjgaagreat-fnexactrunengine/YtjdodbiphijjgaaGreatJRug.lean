import Derived.Test.YtjdodbiphijjgaaGreatJRue
import Derived.Test.YtjdodbiphijjgaaGreatJRud
namespace Go.Proofs.YtjdodbiphijjgaaGreat
open Go.RowKit Go.Deep
set_option linter.unusedVariables false
set_option linter.unusedSimpArgs false
set_option maxRecDepth 20000
set_option maxHeartbeats 4000000 in
theorem specRe_bad (n:Nat) (K V:Nat→Int) (a:Option Addr) (cap:Nat) (m:Nat) (T:Nat→Rp) (a2:Option Addr) (cap2:Nat) (w:World) (hc:neC n K V≠0) (hC:CellsAt w a n K V) :
    Calls Tryz.prog 28 #[.slice a n cap,.slice a2 m cap2] w (ResR (neC n K V) 0 T w):=by
  have HC:Hid (CellsAt w a n K V):=hC
  have HB0:Hid (∀o:Obj,o=.cells #[.int .i64 0,.slice none 0 0] 61→Box2f (w.alloc o) w.heap.size (.int .i64 0) (.slice none 0 0)∧Below w.heap.size w (w.alloc o)∧(w.alloc o).heap.size=w.heap.size+1):=by
    rintro o rfl;exact ⟨Box2f.new _ _ _ _,below_new _ _,by simp⟩
  have HQ:Hid (∀W,CellsAt W a n K V→Calls Tryz.prog 85 #[.slice a n cap] W (ERes (neC n K V) 0 (neR n K V) W)):=fun W h=>specNe_any n K V a cap W h;have hc2:(neC n K V != 0)=true:=(by simp [hc]);clear hC hc;generalize neC n K V=c at *;generalize neR n K V=E at *;go_enter Tryz.func28,Tryz.ntmps28;go_wp2_with fail;refine (HQ.out _ (HC.out.below (HB0.out _ rfl).2.1)).mono ?_;rintro e w1 ⟨d,cd,d',cd',rfl,hb1,-⟩;obtain ⟨bR,bW,bz⟩:=HB0.out _ rfl;generalize (w.alloc (.cells #[.int .i64 0,.slice none 0 0] 61))=W0 at *;have HW1:Hid (Below w.heap.size w w1):=below_then bW hb1;have HR1:Hid (Box2f w1 w.heap.size (.int .i64 0) (.slice none 0 0)):=bR.below hb1;have HR2:Hid (∀o:Obj,Box2f (w1.alloc o) w.heap.size (.int .i64 0) (.slice none 0 0)):=fun o=>HR1.out.below (below_new _ _);have r0:=fun o:Obj=>(HR2.out o).1.1;have r1:=fun o:Obj=>(HR2.out o).1.2;have rf:=fun o:Obj=>(HR2.out o).2;have HF:Hid (∀w7,Below w.heap.size w w7→ResR c 0 T w (.returned (.agg #[.int .i64 c,.slice none 0 0])) w7):=fun w7 hb=>resr_bad hb;have hz1:w.heap.size+1≤w1.heap.size:=(by have:=hb1.size;omega);clear HB0 HQ bR bW bz hb1;go_wp2_with fail;refine bodyPost_ret (v:=.agg #[.int .i64 c,.slice none 0 0]) (by simp [results,Tryz.results28,go_sem, *]) rfl ?_;refine HF.out _ ?_
  repeat (first | with_reducible exact HW1.out | with_reducible refine Below.setCell ?_ (by first | omega | (simp <;> omega)) _ | with_reducible refine Below.alloc ?_ (by first | omega | (simp <;> omega)) _)
set_option maxHeartbeats 4000000 in
theorem specRe_many (n:Nat) (K V:Nat→Int) (a:Option Addr) (cap:Nat) (m:Nat) (T:Nat→Rp) (a2:Option Addr) (cap2:Nat) (w:World) (hc:neC n K V=0) (hm:100<m) (hC:CellsAt w a n K V) :
    Calls Tryz.prog 28 #[.slice a n cap,.slice a2 m cap2] w (ResR 2 0 T w):=by
  have HC:Hid (CellsAt w a n K V):=hC;have hm':(100:Int)<(m:Int):=(by omega)
  have HB0:Hid (∀o:Obj,o=.cells #[.int .i64 0,.slice none 0 0] 61→Box2f (w.alloc o) w.heap.size (.int .i64 0) (.slice none 0 0)∧Below w.heap.size w (w.alloc o)∧(w.alloc o).heap.size=w.heap.size+1):=by
    rintro o rfl;exact ⟨Box2f.new _ _ _ _,below_new _ _,by simp⟩
  have HQ:Hid (∀W,CellsAt W a n K V→Calls Tryz.prog 85 #[.slice a n cap] W (ERes 0 0 (neR n K V) W)):=fun W h=>by
    have hh:=specNe_any n K V a cap W h
    rwa [hc] at hh
  clear hC hc;generalize neR n K V=E at *;go_enter Tryz.func28,Tryz.ntmps28;go_wp2_with fail;refine (HQ.out _ (HC.out.below (HB0.out _ rfl).2.1)).mono ?_;rintro e w1 ⟨d,cd,d',cd',rfl,hb1,-⟩;obtain ⟨bR,bW,bz⟩:=HB0.out _ rfl;generalize (w.alloc (.cells #[.int .i64 0,.slice none 0 0] 61))=W0 at *;have HW1:Hid (Below w.heap.size w w1):=below_then bW hb1;have HR1:Hid (Box2f w1 w.heap.size (.int .i64 0) (.slice none 0 0)):=bR.below hb1;have HR2:Hid (∀o:Obj,Box2f (w1.alloc o) w.heap.size (.int .i64 0) (.slice none 0 0)):=fun o=>HR1.out.below (below_new _ _);have r0:=fun o:Obj=>(HR2.out o).1.1;have r1:=fun o:Obj=>(HR2.out o).1.2;have rf:=fun o:Obj=>(HR2.out o).2;have HF:Hid (∀w7,Below w.heap.size w w7→ResR 2 0 T w (.returned (.agg #[.int .i64 2,.slice none 0 0])) w7):=fun w7 hb=>resr_bad hb;have hz1:w.heap.size+1≤w1.heap.size:=(by have:=hb1.size;omega);clear HB0 HQ bR bW bz hb1;go_wp2_with fail;refine bodyPost_ret (v:=.agg #[.int .i64 2,.slice none 0 0]) (by simp [results,Tryz.results28,go_sem, *]) rfl ?_;refine HF.out _ ?_
  repeat (first | with_reducible exact HW1.out | with_reducible refine Below.setCell ?_ (by first | omega | (simp <;> omega)) _ | with_reducible refine Below.alloc ?_ (by first | omega | (simp <;> omega)) _)
theorem specRe_any (n:Nat) (K V:Nat→Int) (a:Option Addr) (cap:Nat) (m:Nat) (A:Nat→Ac) (a2:Option Addr) (cap2:Nat) (w:World) (hC:CellsAt w a n K V) (hA:AcsAt w a2 m A) :
    Calls Tryz.prog 28 #[.slice a n cap,.slice a2 m cap2] w (ResR (reC n K V m) (reN n K V m) (rpA (neE n K V) A) w):=by
  by_cases hc:neC n K V=0
  · obtain ⟨k1,k2⟩:=re_ok (m:=m) hc;rw [k1,k2]
    by_cases hm:100<m
    · rw [if_pos hm,if_pos hm];exact specRe_many n K V a cap m _ a2 cap2 w hc hm hC
    · rw [if_neg hm,if_neg hm];exact specRe_ok n K V a cap m A a2 cap2 w hc hm hC hA
  · obtain ⟨k1,k2⟩:=re_bad (m:=m) hc;rw [k1,k2];exact specRe_bad n K V a cap m _ a2 cap2 w hc hC
end Go.Proofs.YtjdodbiphijjgaaGreat
