import Derived.Test.YtjdodbiphijjgaaGreatQDob
import Derived.Test.YtjdodbiphijjgaaGreatQRsm
import Derived.Test.YtjdodbiphijjgaaGreatQCb
import Derived.Test.YtjdodbiphijjgaaGreatQBox
import Derived.Deep.RegionLaw
import Derived.Lib.SmallJoins
namespace Go.Proofs.YtjdodbiphijjgaaGreat
open Go.RowKit Go.Deep Go.Shelf
set_option linter.unusedVariables false
set_option linter.unusedSimpArgs false
set_option maxRecDepth 20000
open Go.ChangeShapes Go.WideShapes Go.ChangeAt Go.RowKit Go.Deep Go.Joins
theorem l9x_any (E:En) (r:Dk) (a:Option Addr) (cap:Nat) (a':Option Addr) (cap':Nat) (w:World) (hs:SmallE E) (h:EngAt w a a' E) :
    Calls Tryz.prog 76 #[.agg #[.int .i64 E.nx,.int .i64 E.ck,.slice a E.p cap,.slice a' E.q cap'],.agg #[.int .i64 r.k,.int .i64 r.t,.int .i64 r.y,.int .i64 r.o]] w (DnX E a a' (dnC E r) (dnW E r) (dnL E r) (dnE E r) w):=by
  by_cases h1:r.k=1
  · exact l9e_bt E r a cap a' cap' w h1 hs h
  by_cases h2:r.k=2
  · exact l9e_rk E r a cap a' cap' w h2 hs h
  by_cases h3:r.k=3
  · exact l9e_sk E r a cap a' cap' w h3 hs h
  by_cases h4:r.k=4
  · exact l9e_pk E r a cap a' cap' w h4 hs h
  by_cases h5:r.k=5
  · exact l9e_dk E r a cap a' cap' w h5 hs h
  by_cases h6:r.k=6
  · exact l9e_ct E r a cap a' cap' w h6 hs h
  by_cases h7:r.k=7
  · exact l9e_ab E r a cap a' cap' w h7 hs h
  exact l9e_no E r a cap a' cap' w (by omega) hs h
theorem l9e_any (E:En) (r:Dk) (a:Option Addr) (cap:Nat) (a':Option Addr) (cap':Nat) (w:World) (hs:SmallE E) (h:EngAt w a a' E) :
    Calls Tryz.prog 76 #[.agg #[.int .i64 E.nx,.int .i64 E.ck,.slice a E.p cap,.slice a' E.q cap'],.agg #[.int .i64 r.k,.int .i64 r.t,.int .i64 r.y,.int .i64 r.o]] w (DnR (dnC E r) (dnW E r) (dnL E r) (dnE E r) w):=
  (l9x_any E r a cap a' cap' w hs h).mono fun _ _ k=>k.toR h
theorem eF_dn {E:En} (h0:eF E=0) (r:Dk):eF (dnE E r)=0:=by
  unfold dnE;split
  · rename_i hc;unfold dnC at hc;unfold dnG
    by_cases h1:r.k=1
    · rw [if_pos h1] at hc ⊢;exact eF_bt hc
    rw [if_neg h1] at hc ⊢
    by_cases h2:r.k=2
    · rw [if_neg (by omega),if_neg (by omega),if_neg (by omega),if_neg (by omega)];exact h0
    rw [if_neg h2] at hc
    by_cases h3:r.k=3
    · rw [if_neg (by omega),if_neg (by omega),if_neg (by omega),if_neg (by omega)];exact h0
    rw [if_neg h3] at hc
    by_cases h4:r.k=4
    · rw [if_pos h4] at hc ⊢;exact eF_wc (fun e=>by cases e) hc
    rw [if_neg h4] at hc ⊢
    by_cases h5:r.k=5
    · rw [if_pos h5] at hc ⊢;exact eF_wc (fun _=>rfl) hc
    rw [if_neg h5] at hc ⊢
    by_cases h6:r.k=6
    · rw [if_pos h6] at hc ⊢;exact eF_ct hc
    rw [if_neg h6] at hc ⊢
    by_cases h7:r.k=7
    · rw [if_pos h7] at hc ⊢;exact eF_ab hc
    rw [if_neg h7] at hc;cases hc
  · exact h0
theorem eF_few {G:En} (h:eF G=0):G.p≤20∧G.q≤32∧(∀i,i<G.p→(G.T i).n≤60)∧∀i,i<G.q→(G.R i).n≤12:=⟨(eF_pq h).1,(eF_pq h).2,undos60 h,rows12 h⟩
theorem CAns.own {E:En} {w w':World} {e:Ending} (h:CAns E w e w'):∃d cd d' cd',e=.returned (.agg #[.int .i64 E.nx,.int .i64 E.ck,.slice d E.p cd,.slice d' E.q cd'])∧Below w.heap.size w w'∧OwnE w' w.heap.size w'.heap.size d d' E:=by
  obtain ⟨v,v',b0,M,rfl,hb,h1,h2,ht,hr⟩:=h;obtain ⟨d,cd,rfl,-,ot⟩:=ht.own;obtain ⟨d',cd',rfl,-,orr⟩:=hr.own;exact ⟨d,cd,d',cd',rfl,hb,Nat.le_refl _,b0,M,M,w'.heap.size,h1,ot.1,by omega,Nat.le_refl _,.inl (Nat.le_refl _),ot,orr⟩
def doC (E:En) (r:Dk):Int:=if eF E=0 then (if inB r.k 1 7=true then 0 else 3) else eF E
def DoR (c rc rv:Int) (L:List (Int × Int)) (G:En) (w:World) (e:Ending) (w':World):Prop:=
  ∃a ca d cd d' cd',e=.returned (.agg #[.int .i64 c,.int .i64 rc,.int .i64 rv,.slice a L.length ca,.int .i64 G.nx,.int .i64 G.ck,.slice d G.p cd,.slice d' G.q cd'])∧Below w.heap.size w w'∧OwnRR w' w.heap.size w'.heap.size a L.length (kC L) (vC L) d d' G
def drC (E:En) (r:Dk):Int:=if doC E r=0 then dnC E r else 0
def drV (E:En) (r:Dk):Int:=if doC E r=0 then dnW E r else 0
def drL (E:En) (r:Dk):List (Int × Int):=if doC E r=0 then dnL E r else []
def drE (E:En) (r:Dk):En:=if doC E r=0 then dnE E r else zEn
theorem dor_bad {c:Int} {w w':World} (hb:Below w.heap.size w w'):DoR c 0 0 [] zEn w (.returned (.agg #[.int .i64 c,.int .i64 0,.int .i64 0,.slice none 0 0,.int .i64 0,.int .i64 0,.slice none 0 0,.slice none 0 0])) w':=
  ⟨none,0,none,0,none,0,rfl,hb,Nat.le_refl _,w.heap.size,w.heap.size,w.heap.size,w'.heap.size,.inl (Nat.le_refl _),Nat.le_refl _,hb.size,Nat.le_refl _,Nat.le_refl _,⟨hb.size,.inl rfl⟩,zEn_own _ _ hb.size⟩
theorem dr_bad {E:En} {r:Dk} {c:Int} (h:doC E r=c) (hc:c≠0):drC E r=0∧drV E r=0∧drL E r=[]∧drE E r=zEn:=by
  subst h;exact ⟨if_neg hc,if_neg hc,if_neg hc,if_neg hc⟩
theorem dr_ok {E:En} {r:Dk} (h:doC E r=0):drC E r=dnC E r∧drV E r=dnW E r∧drL E r=dnL E r∧drE E r=dnE E r:=⟨if_pos h,if_pos h,if_pos h,if_pos h⟩
structure BxD (w W:World) (E:En) (r:Dk) (s1 s2:Value):Prop where
  below:Below w.heap.size w W
  hsz:w.heap.size+3≤W.heap.size
  e:Box4 W w.heap.size (.int .i64 E.nx) (.int .i64 E.ck) s1 s2
  a:Box4 W (w.heap.size+1) (.int .i64 r.k) (.int .i64 r.t) (.int .i64 r.y) (.int .i64 r.o)
  r:Box8r W (w.heap.size+1+1) (.int .i64 0) (.int .i64 0) (.int .i64 0) (.slice none 0 0) (.int .i64 0) (.int .i64 0) (.slice none 0 0) (.slice none 0 0)
  rf:∀o,W.frozen? ⟨w.heap.size+1+1,o,none⟩=false
theorem BxD.mono {w W W2:World} {E:En} {r:Dk} {s1 s2:Value} (h:BxD w W E r s1 s2) (hb:Below W.heap.size W W2):BxD w W2 E r s1 s2:=by
  have h1:=h.hsz;have f:∀q o,q<W.heap.size→W2.frozen? ⟨q,o,none⟩=W.frozen? ⟨q,o,none⟩:=fun q o hq=>World.frozen?_of_block (w:=W) (a:=⟨q,o,none⟩) (hb.block q hq);exact ⟨below_then h.below hb,Nat.le_trans h1 hb.size,h.e.below hb,h.a.below hb,h.r.below hb,fun o=>(f _ _ (by omega)).trans (h.rf o)⟩
theorem BxD.start (w:World) (E:En) (r:Dk) (s1 s2:Value) (t1 t2 t3:TypeId):BxD w (((w.alloc (.cells #[.int .i64 E.nx,.int .i64 E.ck,s1,s2] t1)).alloc (.cells #[.int .i64 r.k,.int .i64 r.t,.int .i64 r.y,.int .i64 r.o] t2)).alloc (.cells #[.int .i64 0,.int .i64 0,.int .i64 0,.slice none 0 0,.int .i64 0,.int .i64 0,.slice none 0 0,.slice none 0 0] t3)) E r s1 s2:=by
  have h1:=below_new w (.cells #[.int .i64 E.nx,.int .i64 E.ck,s1,s2] t1);have b1:=Box4.new w (.int .i64 E.nx) (.int .i64 E.ck) s1 s2 t1;have z1:(w.alloc (.cells #[.int .i64 E.nx,.int .i64 E.ck,s1,s2] t1)).heap.size=w.heap.size+1:=(by simp);generalize w.alloc (.cells #[.int .i64 E.nx,.int .i64 E.ck,s1,s2] t1)=w1 at *;have h2:=below_new w1 (.cells #[.int .i64 r.k,.int .i64 r.t,.int .i64 r.y,.int .i64 r.o] t2);have b2:=Box4.new w1 (.int .i64 r.k) (.int .i64 r.t) (.int .i64 r.y) (.int .i64 r.o) t2;have z2:(w1.alloc (.cells #[.int .i64 r.k,.int .i64 r.t,.int .i64 r.y,.int .i64 r.o] t2)).heap.size=w.heap.size+1+1:=(by simp [z1]);generalize w1.alloc (.cells #[.int .i64 r.k,.int .i64 r.t,.int .i64 r.y,.int .i64 r.o] t2)=w2 at *;have h3:=below_new w2 (.cells #[.int .i64 0,.int .i64 0,.int .i64 0,.slice none 0 0,.int .i64 0,.int .i64 0,.slice none 0 0,.slice none 0 0] t3);have b3:=Box8r.new w2 (.int .i64 0) (.int .i64 0) (.int .i64 0) (.slice none 0 0) (.int .i64 0) (.int .i64 0) (.slice none 0 0) (.slice none 0 0) t3
  have f3:∀o,(w2.alloc (.cells #[.int .i64 0,.int .i64 0,.int .i64 0,.slice none 0 0,.int .i64 0,.int .i64 0,.slice none 0 0,.slice none 0 0] t3)).frozen? ⟨w2.heap.size,o,none⟩=false:=fun o=>by simp [go_sem]
  have z3:(w2.alloc (.cells #[.int .i64 0,.int .i64 0,.int .i64 0,.slice none 0 0,.int .i64 0,.int .i64 0,.slice none 0 0,.slice none 0 0] t3)).heap.size=w.heap.size+1+1+1:=(by simp [z2]);generalize w2.alloc (.cells #[.int .i64 0,.int .i64 0,.int .i64 0,.slice none 0 0,.int .i64 0,.int .i64 0,.slice none 0 0,.slice none 0 0] t3)=w3 at *;rw [z1] at b2;rw [z2] at b3 f3;exact ⟨below_then (below_then h1 h2) h3,by omega,(b1.below h2).below h3,b2.below h3,b3,f3⟩
theorem toAct_any (t a g v:Int) (w:World):Calls Tryz.prog 21 #[.agg #[.int .i64 t,.int .i64 a,.int .i64 g,.int .i64 v]] w fun e w'=>
    e=.returned (.agg #[.int .i64 t,.int .i64 a,.int .i64 g,.int .i64 v])∧Below w.heap.size w w':=by
  go_enter Tryz.func21,Tryz.ntmps21;go_wp2_with fail;refine bodyPost_ret (v:=.agg #[.int .i64 t,.int .i64 a,.int .i64 g,.int .i64 v]) (by simp [results,Tryz.results21,go_sem]) rfl ⟨rfl,?_⟩
  repeat (first | exact Below.refl _ _ | apply Below.drew | refine Below.setCell ?_ (by first | omega | (simp <;> omega)) _ | refine Below.alloc ?_ (by first | omega | (simp <;> omega)) _)
theorem cellsAct:Tryz.prog.cellsOf 43=4:=by kernel_rfl
end Go.Proofs.YtjdodbiphijjgaaGreat
