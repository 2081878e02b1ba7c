import Derived.RangeFuncNested
import Derived.RangeFuncLeaves
import Derived.Test.YtjdodbiphijjgaaGreatJBase
import Derived.RangeFuncBound
import Derived.RangeFuncCalls
import Derived.RangeFuncBox
import Derived.Shelf.Abstract
import Derived.WalkKit
import Derived.OwnWalkIn
import Derived.TacticsInMore
import Derived.LoopNIn
import Derived.LoopIn
import Derived.Test.YtjdodbiphijjgaaGreatJVc
import Derived.Test.YtjdodbiphijjgaaGreatJBga
import Derived.Test.YtjdodbiphijjgaaGreatJOa
import Derived.Test.YtjdodbiphijjgaaGreatJVj
import Derived.Test.YtjdodbiphijjgaaGreatJVn
import Derived.Test.YtjdodbiphijjgaaGreatJWae
import Derived.Test.YtjdodbiphijjgaaGreatJCb
import Derived.Test.YtjdodbiphijjgaaGreatJRqb
import Derived.Test.YtjdodbiphijjgaaGreatJNa
import Derived.Test.YtjdodbiphijjgaaGreatJFf
import Derived.Test.YtjdodbiphijjgaaGreatJGg
namespace Go.Proofs.YtjdodbiphijjgaaGreat
open Go Go.RowKit
open Go.RowKit Go.Shelf
set_option linter.unusedVariables false
open Go.RowKit Go.Deep
set_option linter.unusedSimpArgs false
set_option maxRecDepth 20000
open Go.ChangeShapes Go.WideShapes Go.ChangeAt Go.RowKit Go.Deep Go.Joins
def SeqIdx (F:Fence) (n:Nat) (P:Program) (g:Nat) (lb:Array Value) (encs:Nat→Array Value) (Kp:World→World→Prop) (N:Nat) (w:World):Prop:=
  ∀(l:Nat) (J:Nat→World→Prop) (W:World),Below w.heap.size w W→AbidesFrom W.heap.size J→
    (∀k W1,J k W1→k<N→YieldAt F (n-1) P l (encs k) W1 fun e W'=>e=.returned (.bool true)∧J (k+1) W'∧Kp W1 W')→
    J 0 W→CallsIn F n P g (#[.func (.yield l) #[] #[]] ++ lb) W fun e W'=>(∃v,e=.returned v)∧J N W'
def onPost (B:Nat) (Kp:World→World→Prop) (J:World→Prop) (W:World):Exit→Act→World→Prop
  | .normal,_,W'=>KeepsFrom B W W'∧Kp W W'∧J W'
  | _,_,_=>False
variable {F:Fence} {n:Nat} {P:Program} {w:World}
theorem wpIn_range_idx {g:Operand} {ps:Array Tmp} {assign body:Code} {Q:Exit→Act→World→Prop} {a:Act}
    (hro:F.round=none) (h1:1≤n) {gf:Nat} {lb:Array Value} (hg:a.eval g=.func (.func gf) #[] lb) (hFg:F.fn gf) (eg:∀args w,(callFunc gf args).run P w=.ok (.enter gf args) w)
    {encs:Nat→Array Value} {Kp:World→World→Prop} {N:Nat} {w0:World} (hseq:SeqIdx F (n-1) P gf lb encs Kp N w0)
    (hKt:∀{A B C:World},Kp A B→Kp B C→Kp A C) (hKb:∀(W:World) (l:Nat) (o o':Obj),w.heap.size≤l→W.heap[l]? = some o→o.isCells=false→Kp W (W.putObj l o')) (hb0:Below w0.heap.size w0 w) (hps:∀k,(encs k).size=ps.size)
    (I:Nat→World→Prop) (hI:OwnFrom w.heap.size I) (h0:I 0 w) (Ax:Nat→Act→World→Prop) (hAx:∀k a',OwnFrom w.heap.size (fun (_:Unit) W=>Ax k a' W))
    (hassign:∀(l k:Nat) (W:World) (K:Act→World→Prop),I k W→k<N→(∀a' W',KeepsFrom w.heap.size W W'→Kp W W'→I k W'→Ax k a' W'→K a' W')→
      assign.wpIn (F.inRound l) (n-1-1) P (Exit.then K (fun _ _ _=>False)) { tmps:=(ps.zip (encs k)).foldl (fun t (p,v)=>t.setIfInBounds p v) a.tmps,defers:=[] } W)
    (hbody:∀(l k:Nat) (a':Act) (W:World),w.heap.size≤l→I k W→Ax k a' W→k<N→body.wpIn (F.inRound l) (n-1-1) P (onPost w.heap.size Kp (I (k+1)) W) a' W)
    (hdone:∀(D:Nat) (W:World),w.heap.size≤D→I N W→W.heap[D]? = some (.deferred (some []))→Q .normal { a with defers:={ target:=.collected D,args:=#[] } :: a.defers } W) :
    (Code.rangeFunc g ps assign body).wpIn F n P Q a w:=by
  refine wpIn_rangeFunc fun fn hfn=>?_;rw [hro]
  let D:=w.heap.size
  let L:=w.heap.size+1
  have key:∀st,∃r:Loop,r={ state:=st,pending:=none,fn,tmps:=a.tmps,params:=ps,assign,body,defers:=D }:=fun st=>⟨_,rfl⟩
  let rc:LoopState→Loop:=fun st=>{ state:=st,pending:=none,fn,tmps:=a.tmps,params:=ps,assign,body,defers:=D }
  let V:=(w.alloc (.deferred (some []))).alloc (.loop (rc .ready))
  have vL:V.heap[L]? = some (.loop (rc .ready)):=by
    have h:=World.alloc_heap_new (w.alloc (.deferred (some []))) (.loop (rc .ready))
    rwa [World.size_alloc] at h
  have vD:V.heap[D]? = some (.deferred (some [])):=(Below.heap_alloc _ _ _ (by simp [D])).trans (World.alloc_heap_new w _);have vB:Below w0.heap.size w0 V:=hb0.trans ((((Below.refl _ w).alloc (Nat.le_refl _) _).alloc (by simp) _).mono hb0.size);have vI:I 0 V:=hI.alloc _ (hI.alloc _ h0);have vS:V.heap.size=w.heap.size+2:=(by simp [V]);refine ⟨L,[{ target:=.collected D,args:=#[] }],V,{ target:=.fn (.func gf) lb,args:=#[.func (.yield L) #[] #[]] },V,gf,#[.func (.yield L) #[] #[]] ++ lb,V,run_enterLoop_outer _ _ _ _ _,?_,fun f hf=>?_,?_,fun _=>h1,?_⟩
  · simp only [resolve,hg];simp [go_sem]
  · simp [Target.leads] at hf;subst hf;exact hFg
  · simp [invoke,go_sem,eg]
  let J:Nat→World→Prop:=fun k W=>I k W∧W.heap[L]? = some (.loop (rc .ready))∧W.heap[D]? = some (.deferred (some []))
  have hJ:AbidesFrom V.heap.size J:=fun k A B row hs hgr hr=>by
    have hr2:∀r,row=some r→w.heap.size≤r∧∃o:Obj,A.heap[r]? = some o∧o.isCells=false:=fun r e=>by
      obtain ⟨h3,o,h4,h5⟩:=hr r e;exact ⟨by omega,o,h4,Obj.not_cells_of_walk h5⟩
    have far:∀x,x<V.heap.size→∀o,A.heap[x]? = some o→B.heap[x]? = some o:=fun x hx o ho=>
      (hgr.block x (Array.getElem?_eq_some_iff.1 ho).1 (fun e=>by have:=(hr x e.symm).1;omega)).trans ho
    exact ⟨hI k A B row hs.1 hgr hr2,far L (by omega) _ hs.2.1,far D (by omega) _ hs.2.2⟩
  refine (hseq L J V vB hJ (fun k W hW hk=>?_) ⟨vI,vL,vD⟩).mono ?_
  · obtain ⟨jI,jL,jD⟩:=hW;refine ⟨fn,_,assign,body,run_yield (P:=P) (args:=encs k) jL (hps k),roundIn_of_wpIn hfn (hassign L k W _ jI hk fun a' X x1 x2 xI xA=>?_)⟩;have xL:=x1.same L _ (Nat.le_succ _) jL rfl;have xD:=x1.same D _ (Nat.le_refl _) jD rfl;have xl:L<X.heap.size:=(Array.getElem?_eq_some_iff.1 xL).1;refine ⟨_,run_beginRound xL rfl,?_⟩;have yL:(X.putObj L (.loop (rc .busy))).heap[L]? = some (.loop (rc .busy)):=World.putObj_heap_same xl;have yD:(X.putObj L (.loop (rc .busy))).heap[D]? = some (.deferred (some [])):=(World.putObj_heap_other (by simp only [D,L];omega)).trans xD;have yK:Kp X (X.putObj L (.loop (rc .busy))):=hKb _ _ _ _ (Nat.le_succ _) xL rfl;refine wpIn_mono (hbody L k a' _ (Nat.le_succ _) (hI.putObj _ xI (Nat.le_succ _) xL rfl) ((hAx k a').putObj (s:=()) _ xA (Nat.le_succ _) xL rfl) hk) ?_;intro e a3 Y hp;cases e with
    | normal=>
      obtain ⟨z1,z2,z3⟩:=hp;have zL:=z1.same L _ (Nat.le_succ _) yL rfl;have zD:=z1.same D _ (Nat.le_refl _) yD rfl;refine ⟨_,_,run_endRound (P:=P) none zL,rfl,⟨hI.putObj _ z3 (Nat.le_succ _) zL rfl,World.putObj_heap_same (Array.getElem?_eq_some_iff.1 zL).1,(World.putObj_heap_other (by simp only [D,L];omega)).trans zD⟩,hKt x2 (hKt (hKt yK z2) (hKb _ _ _ _ (Nat.le_succ _) zL rfl))⟩
    | ret=>exact hp.elim
    | exit id=>exact hp.elim
    | goto t=>exact hp.elim
    | panic ch=>exact hp.elim
    | outgrown=>exact hp.elim
  · rintro e Y ⟨⟨v,rfl⟩,yI,yL,yD⟩;exact ⟨none,_,run_endLoop (P:=P) yL (by simp [rc]),hdone D _ (Nat.le_refl _) (hI.putObj _ yI (Nat.le_succ _) yL rfl) ((World.putObj_heap_other (by simp only [D,L];omega)).trans yD)⟩
theorem leavesM_same {fn:Func} {t1 t2:Array Value} {R:Ending→World→Prop} (h:results fn t1=results fn t2):∀(ds:List Deferred) (u:FrameMode) (w:World),LeavesInM F n P fn t1 R ds u w→LeavesInM F n P fn t2 R ds u w
  | [],.returning,w,⟨v,hv,hr⟩=>⟨v,by rw [←h];exact hv,hr⟩
  | [],.panicking c,w,hh=>hh
  | [],.run,w,hh=>hh
  | d :: ds,u,w,⟨h1,hh⟩=>⟨h1,by
      rcases hh with ⟨r,w',k1,k2,k3⟩ | ⟨k0,fv,cap,f,args,k1,k2,k3,k4⟩
      · exact .inl ⟨r,w',k1,k2,leavesM_same h ds _ _ k3⟩
      · refine .inr ⟨k0,fv,cap,f,args,k1,k2,k3,k4.mono fun e u' w' hq=>?_⟩;cases e with
        | returned v=>exact leavesM_same h ds _ _ hq
        | panicked c=>exact leavesM_same h ds _ _ hq
        | outgrown=>exact hq⟩
attribute [local go_sem] Oper.semAt_some
def encU (U:Nat→Ud) (len k:Nat):Array Value:=#[.int .i64 ((len-1-k:Nat):Int),.agg #[.int .i64 (U (len-1-k)).k,.bool (U (len-1-k)).h,.bool (U (len-1-k)).g,.int .i64 (U (len-1-k)).v]]
def KpU (Bs b:Nat) (W W':World):Prop:=∀x,(x=Bs∨x=b)→∀i v,W.cell? ⟨x,i,none⟩=some v→W'.cell? ⟨x,i,none⟩=some v
theorem KpU.refl (Bs b:Nat) (W:World):KpU Bs b W W:=fun _ _ _ _ h=>h
theorem KpU.trans {Bs b:Nat} {A B C:World} (h:KpU Bs b A B) (k:KpU Bs b B C):KpU Bs b A C:=fun x hx i v e=>k x hx i v (h x hx i v e)
theorem KpU.put {Bs b:Nat} (W:World) (l:Nat) (o o':Obj) (h:W.heap[l]? = some o) (hc:o.isCells=false):KpU Bs b W (W.putObj l o'):=
  fun x _ i v e=>cell_kept e (grownBy_putObj' W l o') (fun r e2=>by cases e2;exact ⟨_,h,hc⟩)
set_option maxRecDepth 100000 in
set_option maxHeartbeats 2000000 in
theorem back1_in (F:Fence) (n:Nat) (h7:F.fn 240) (hro:F.round=none) (hn:1≤n) (l Bs b off len cap:Nat) (a:Option Addr) (U:Nat→Ud) (hlen:len≤100000) (ha:len=0∨a=some ⟨b,off,none⟩) (J:Nat→World→Prop)
    (hY:∀k W1,J k W1→k<len→YieldAt F (n-1) Tryz.prog l (encU U len k) W1 fun e W'=>e=.returned (.bool true)∧J (k+1) W'∧KpU Bs b W1 W')
    (W:World) (hBs:W.cell? ⟨Bs,0,none⟩=some (.slice a len cap)) (hc:∀i,i<len→CU W b (off+i*4) (U i)) (h0:J 0 W) :
    CallsIn F n Tryz.prog 240 #[.func (.yield l) #[] #[],.pointer (some ⟨Bs,0,none⟩)] W fun e W'=>(∃v,e=.returned v)∧J len W':=by
  refine callsIn_of_wp Tryz.func240 rfl h7 ?_ hro;simp only [Tryz.ntmps240,List.size_toArray,List.length_cons,List.length_nil,Nat.reduceAdd,Nat.reduceSub,Array.replicate_succ,Array.replicate_zero,List.push_toArray,List.append_toArray,List.nil_append,List.cons_append];have hw1:IntKind.i64.wrap ((len:Int)-1)=(len:Int)-1:=(by rw [IntKind.wrap_i64];omega);have HY:Hid (∀k W1,J k W1→k<len→YieldAt F (n-1) Tryz.prog l (encU U len k) W1 fun e W'=>e=.returned (.bool true)∧J (k+1) W'∧KpU Bs b W1 W'):=hY;have HC:Hid (∀i,i<len→CU W b (off+i*4) (U i)):=hc;have HA:Hid (len=0∨a=some ⟨b,off,none⟩):=ha;have HBS:Hid (W.cell? ⟨Bs,0,none⟩=some (.slice a len cap)):=hBs;have H0:Hid (J 0 W):=h0;clear hY hc ha h0
  gi_wp2_with fail
  clear hBs
  gi_loopw [3] (fun i wr=>∃k:Nat,k≤len∧i=.int .i64 ((len:Int)-1-k)∧Hid (J k wr)∧Hid (KpU Bs b W wr)) (fun i _=>(intOf i+1).toNat)
  case atStart=>exact ⟨0,Nat.zero_le _,by simp,H0,KpU.refl _ _ _⟩
  case round=>
    obtain ⟨k,hk,rfl,HJ,HK⟩:=hrel;have hbs:=HK.out Bs (.inl rfl) _ _ HBS.out
    by_cases hlt:k<len
    · obtain ⟨j,hj⟩:∃j:Nat,j=len-1-k:=⟨_,rfl⟩;have hj2:(len:Int)-1-k=(j:Int):=(by omega);have hjl:(j:Int)<(len:Int):=(by omega);have hj0:(0:Int)≤(j:Int):=(by omega)
      rcases HA.out with h | rfl
      · omega
      obtain ⟨c0,c1,c2,c3⟩:=HC.out j (by omega);replace c0:=HK.out b (.inr rfl) _ _ c0;replace c1:=HK.out b (.inr rfl) _ _ c1;replace c2:=HK.out b (.inr rfl) _ _ c2;replace c3:=HK.out b (.inr rfl) _ _ c3;obtain ⟨fn,tmps,assign,body,hy,hR⟩:=HY.out k wr HJ.out hlt;simp only [encU,←hj] at hy;have HN:Hid ((len:Int)-1-((k+1:Nat):Int)=(j:Int)-1):=(by show (len:Int)-1-((k+1:Nat):Int)=(j:Int)-1;omega);have hw2:IntKind.i64.wrap ((j:Int)-1)=(j:Int)-1:=(by rw [IntKind.wrap_i64];omega);rw [hj2];clear hj hj2;generalize U j=u at *
      gi_wp2_with fail
      refine hR.mono ?_;rintro e W3 ⟨rfl,hJ3,hk3⟩;have HK3:Hid (KpU Bs b W W3):=HK.out.trans hk3;clear hk3 hR hy
      gi_wp2_with fail
      go_roundw
      case rel=>exact ⟨k+1,by omega,by rw [HN.out],hJ3,HK3⟩
      case measure=>simp [intOf]
    · obtain rfl:k=len:=by omega
      have hneg:¬((0:Int)≤(k:Int)-1-k):=(by omega);have hneg2:(k:Int)-1-k=-1:=(by omega);rw [hneg2]
      gi_wp2_with fail
      go_end0;exact ⟨⟨_,rfl⟩,HJ.out⟩
theorem back_any (a:Option Addr) (len cap:Nat) (w:World) :
    Calls Tryz.prog 229 #[.slice a len cap] w fun e w'=>e=.returned (.func (.func 240) #[] #[.pointer (some ⟨w.heap.size,0,none⟩)])∧w'=w.alloc (.cells #[.slice a len cap] 125):=by
  go_enter Tryz.func229,Tryz.ntmps229;go_wp2_with fail;go_ret;exact ⟨rfl,rfl⟩
theorem back_idx (F:Fence) (n:Nat) (h7:F.fn 240) (hro:F.round=none) (hn:1≤n) (Bs b len cap:Nat) (a:Option Addr) (U:Nat→Ud) (hlen:len≤100000) (w:World) (hBs:w.cell? ⟨Bs,0,none⟩=some (.slice a len cap))
    (hU:len=0∨∃off,a=some ⟨b,off,none⟩∧∀i,i<len→CU w b (off+i*4) (U i)) :
    SeqIdx F n Tryz.prog 240 #[.pointer (some ⟨Bs,0,none⟩)] (encU U len) (KpU Bs b) len w:=fun l J W hW _ hY h0=>by
  have hc':=(hW.cell (p:=⟨Bs,0,none⟩) (Go.block_lt_of_cell hBs)).trans hBs
  rcases hU with h | ⟨off,rfl,hU⟩
  · exact back1_in F n h7 hro hn l Bs b 0 len cap a U hlen (.inl h) J hY W hc' (fun i hi=>by omega) h0
  · by_cases h1:len=0
    · exact back1_in F n h7 hro hn l Bs b 0 len cap _ U hlen (.inl h1) J hY W hc' (fun i hi=>by omega) h0
    · exact back1_in F n h7 hro hn l Bs b off len cap _ U hlen (.inr rfl) J hY W hc' (fun i hi=>(hU i hi).block (hW.block b (Go.block_lt_of_cell (hU i hi).1))) h0
def stH (xs:List HRw) (p:Nat) (y:HRw) (k:Nat):List HRw:=if k≤p then xs.take k else xs.take p ++ (if y.t.n=0 then [] else [y]) ++ (xs.take k).drop (p+1)
def setH (xs:List HRw) (p:Nat) (y:HRw):List HRw:=xs.take p ++ (if y.t.n=0 then [] else [y]) ++ xs.drop (p+1)
theorem stH_last {xs:List HRw} {p:Nat} {y:HRw} (h:p<xs.length):stH xs p y xs.length=setH xs p y:=by
  unfold stH setH;rw [if_neg (by omega),List.take_length]
theorem stH_at {xs:List HRw} {p:Nat} {y:HRw} (h:p<xs.length):stH xs p y (p+1)=stH xs p y p ++ (if y.t.n=0 then [] else [y]):=by
  unfold stH;rw [if_neg (by omega),if_pos (Nat.le_refl _)];have:(xs.take (p+1)).drop (p+1)=[]:=List.drop_eq_nil_of_le (by simp;omega);rw [this,List.append_nil]
theorem stH_other {xs:List HRw} {p k:Nat} {y x:HRw} (hx:xs[k]? = some x) (hne:k≠p):stH xs p y (k+1)=stH xs p y k ++ [x]:=by
  have hk:k<xs.length:=(List.getElem?_eq_some_iff.1 hx).1;unfold stH
  by_cases c:k<p
  · rw [if_pos (by omega),if_pos (by omega)];exact take_next hx
  · have e1:¬(k+1≤p):=by omega
    have e2:¬(k≤p):=(by omega);simp only [e1,e2,if_false];rw [take_next hx,List.drop_append_of_le_length (by simp;omega),←List.append_assoc]
theorem stH_len {xs:List HRw} {p k:Nat} {y:HRw}:(stH xs p y k).length≤k+1:=by
  unfold stH;split
  · have:=List.length_take_le k xs;omega
  · have h1:=List.length_take_le k xs;have h2:=List.length_take_le p xs
    split <;> simp <;> omega
def dnB (y:HRw) (p k:Nat):Bool:=decide (y.t.n=0) || decide (p<k)
def SeR (B:Nat) (xs:List HRw) (p:Nat) (y:HRw) (w:World) (e:Ending) (w':World):Prop:=e=.returned (.tuple #[])∧∃v u,Below w.heap.size w u∧w'=u.setCell ⟨B,3,none⟩ v∧u.ownsRow w.heap.size 173 2 v (setH xs p y).length (hbRw (setH xs p y))
set_option maxHeartbeats 8000000 in
theorem l6Set_any (B:Nat) (xs:List HRw) (x0 y:HRw) (p q:Nat) (ra:Option Addr) (rc:Nat) (w:World) (hq:xs.length=q) (hle:q≤32) (c3:w.cell? ⟨B,3,none⟩=some (.slice ra q rc)) (f3:w.frozen? ⟨B,3,none⟩=false) (hat:HAtRw w ra xs) (hri:RiRw xs) (hp:xs[p]? = some x0) (hk:x0.t.key=y.t.key) :
    Calls Tryz.prog 115 #[.pointer (some ⟨B,0,none⟩),.int .i64 y.t.key,.slice y.A y.t.n y.c] w (SeR B xs p y w):=by
  have hBl:B<w.heap.size:=Go.block_lt_of_cell c3;have HC3:Hid (w.cell? ⟨B,3,none⟩=some (.slice ra q rc)):=c3;have HF3:Hid (w.frozen? ⟨B,3,none⟩=false):=f3;have HX:Hid (HAtRw w ra xs):=hat;have HRI:Hid (RiRw xs):=hri;have HQ:Hid (xs.length=q):=hq;have HP:Hid (xs[p]? = some x0∧x0.t.key=y.t.key):=⟨hp,hk⟩;have hpq:p<q:=(by rw [←hq];exact (List.getElem?_eq_some_iff.1 hp).1);have HI:Hid ((w.alloc (.cells #[] 173)).ownsRow w.heap.size 173 2 (.slice (some ⟨w.heap.size,0,none⟩) 0 0) 0 []):=World.ownsRow_made w #[] 0 (Nat.le_refl _) (by unfold maxLen;omega) rfl;have hd0:((y.t.n:Int) == 0)=decide (y.t.n=0):=(by by_cases h9:y.t.n=0 <;> simp [h9]);clear c3 f3 hat hri hq hp hk;go_enter Tryz.func115,Tryz.ntmps115;go_wp2_with fail;go_loopw [6,7,8] (fun v d i wr=>∃k:Nat,k≤q∧i=.int .i64 k∧Hid (d=.bool (dnB y p k))∧∃m,Hid ((stH xs p y k).length=m)∧Hid (Below w.heap.size w wr)∧Hid (wr.ownsRow w.heap.size 173 2 v m (hbRw (stH xs p y k)))) (fun _ _ i _=>q-(Go.RowKit.intOf i).toNat)
  case atStart=>exact ⟨0,Nat.zero_le _,rfl,by rw [Hid];simp [dnB,hd0],0,by simp [Hid,stH],below_new _ _,by rw [Hid,show stH xs p y 0=[] by simp [stH]];exact HI.out⟩
  case round=>
    clear HI hd0;obtain ⟨k,hk,rfl,HD,m,HM,HB,HO⟩:=hrel;have hsz:=HB.out.size;have hm9:m≤33:=(by have h9:=stH_len (xs:=xs) (p:=p) (k:=k) (y:=y);rw [HM.out] at h9;omega);have c3:=cell_below HC3.out HB.out
    by_cases hlt:k<q
    · have hlt':(k:Int)<(q:Int):=by omega
      have hk0:(0:Int)≤(k:Int):=(by omega);obtain ⟨x,hx⟩:∃x,xs[k]? = some x:=⟨_,List.getElem?_eq_getElem (by rw [HQ.out];exact hlt)⟩
      rcases HX.out.below HB.out with h | ⟨b,off,rfl,hl,hcc⟩
      · rw [h] at hx;simp at hx
      obtain ⟨z0,z1⟩:=hcc k x hx;clear hcc
      by_cases hkp:k=p
      · subst hkp;have e0:x=x0:=(by have:=HP.out.1;rw [hx] at this;injection this);have hky:x.t.key=y.t.key:=(by rw [e0];exact HP.out.2);have heq:(x.t.key == y.t.key)=true:=(by simp [hky]);have hgt:¬(y.t.key<x.t.key):=(by omega)
        by_cases hn0:y.t.n=0
        · have hd:dnB y k k=true:=by simp [dnB,hn0]
          have HDN:Hid (.bool true=(.bool (dnB y k (k+1)):Value)):=(by simp [Hid,dnB,hn0]);have HST:stH xs k y (k+1)=stH xs k y k:=(by rw [stH_at (by rw [HQ.out];exact hlt),if_pos hn0,List.append_nil]);have HM3:Hid ((stH xs k y (k+1)).length=m):=(by rw [Hid,HST];exact HM.out);have hO:=HO.out;rw [←HST] at hO;have HO3:Hid (World.ownsRow _ _ _ _ _ _ _):=hO;have hD:=HD.out;rw [hd] at hD;subst hD;clear hO hd HST HD HO e0 hky hx hn0;go_wp2_with fail;go_roundw
          case rel=>exact ⟨k+1,hlt,by go_num,HDN,m,HM3,HB,HO3⟩
          case measure=>simp [Go.RowKit.intOf];omega
        · have hd:dnB y k k=false:=by simp [dnB,hn0]
          have HDN:Hid (.bool true=(.bool (dnB y k (k+1)):Value)):=(by simp [Hid,dnB]);have HST:Hid (stH xs k y (k+1)=stH xs k y k ++ [y]):=(by rw [Hid,stH_at (by rw [HQ.out];exact hlt),if_neg hn0]);have hD:=HD.out;rw [hd] at hD;subst hD;clear hd HD e0 hky hx hn0;have HOA:Hid (∀o1:Obj,(wr.alloc o1).ownsRow w.heap.size 173 2 _ m (hbRw (stH xs k y k))):=fun o1=>own_belowI HO.out (below_new _ _)
          have HBX:Hid (∀o:Obj,o=.cells #[.int .i64 y.t.key,.slice y.A y.t.n y.c] 173→CRw (wr.alloc o) wr.heap.size 0 y.t y.A y.c):=by
            rintro o rfl;simp [CRw,go_sem]
          have HBA:Hid (∀o1:Obj,Below w.heap.size w (wr.alloc o1)):=fun o1=>below_then HB.out (below_new _ _);clear HO HB;go_wp2_with (first | (at_builtin;refine wpList_appHRw _ rfl (.tmp 54) (.tmp 58) rfl w.heap.size _ m (stH xs k y k) HM.out rfl (HOA.out _) wr.heap.size 1 y rfl (HBX.out _ rfl) (by simp;omega) (by omega) ?_));intro v2 w3 ho3 hg3;have HO3:Hid (w3.ownsRow w.heap.size 173 2 v2 (m+1) (hbRw (stH xs k y (k+1)))):=(by rw [Hid,HST.out];exact ho3);have HM3:Hid ((stH xs k y (k+1)).length=m+1):=(by rw [Hid,HST.out];simp [HM.out]);have HB3:Hid (Below w.heap.size w w3):=(HBA.out (.cells #[.int .i64 y.t.key,.slice y.A y.t.n y.c] 173)).grown hg3 (by simp;omega) fun q9 hq9=>((HOA.out (.cells #[.int .i64 y.t.key,.slice y.A y.t.n y.c] 173)).lt q9 hq9).1;clear ho3 hg3 HOA HBX HBA;go_wp2_with fail;go_roundw
          case rel=>exact ⟨k+1,hlt,by go_num,HDN,m+1,HM3,HB3,HO3⟩
          case measure=>simp [Go.RowKit.intOf];omega
      · have hne:x.t.key≠y.t.key:=fun e=>hkp (by
          have h1:=HP.out.1;obtain ⟨i1,e1⟩:=List.getElem?_eq_some_iff.1 hx;obtain ⟨i2,e2⟩:=List.getElem?_eq_some_iff.1 h1
          rcases Nat.lt_trichotomy k p with c | c | c
          · have:=List.pairwise_iff_getElem.1 HRI.out k p i1 i2 c;unfold keyRw at this;rw [e1,e2,e,HP.out.2] at this;omega
          · exact c
          · have:=List.pairwise_iff_getElem.1 HRI.out p k i2 i1 c;unfold keyRw at this;rw [e1,e2,e,HP.out.2] at this
            omega)
        have heq:(x.t.key == y.t.key)=false:=(by simp [hne]);have HST:Hid (stH xs p y (k+1)=stH xs p y k ++ [x]):=stH_other hx hkp
        have HDN:Hid (.bool (dnB y p k)=(.bool (dnB y p (k+1)):Value)):=by
          have:decide (p<k)=decide (p<k+1):=(by simp only [decide_eq_decide];omega);simp [Hid,dnB,this]
        by_cases hd:dnB y p k=true
        · have hD:=HD.out;rw [hd] at hD HDN;subst hD;clear hd HD hx hne;have HOA:Hid (∀o1:Obj,(wr.alloc o1).ownsRow w.heap.size 173 2 _ m (hbRw (stH xs p y k))):=fun o1=>own_belowI HO.out (below_new _ _)
          have HBX:Hid (∀o:Obj,o=.cells #[.int .i64 x.t.key,.slice x.A x.t.n x.c] 173→CRw (wr.alloc o) wr.heap.size 0 x.t x.A x.c):=by
            rintro o rfl;simp [CRw,go_sem]
          have HBA:Hid (∀o1:Obj,Below w.heap.size w (wr.alloc o1)):=fun o1=>below_then HB.out (below_new _ _);clear HO HB;go_wp2_with (first | (at_builtin;refine wpList_appHRw _ rfl (.tmp 60) (.tmp 68) rfl w.heap.size _ m (stH xs p y k) HM.out rfl (HOA.out _) wr.heap.size 1 x rfl (HBX.out _ rfl) (by simp;omega) (by omega) ?_));intro v2 w3 ho3 hg3;have HO3:Hid (w3.ownsRow w.heap.size 173 2 v2 (m+1) (hbRw (stH xs p y (k+1)))):=(by rw [Hid,HST.out];exact ho3);have HM3:Hid ((stH xs p y (k+1)).length=m+1):=(by rw [Hid,HST.out];simp [HM.out]);have HB3:Hid (Below w.heap.size w w3):=(HBA.out (.cells #[.int .i64 x.t.key,.slice x.A x.t.n x.c] 173)).grown hg3 (by simp;omega) fun q9 hq9=>((HOA.out (.cells #[.int .i64 x.t.key,.slice x.A x.t.n x.c] 173)).lt q9 hq9).1;clear ho3 hg3 HOA HBX HBA;go_wp2_with fail;go_roundw
          case rel=>exact ⟨k+1,hlt,by go_num,HDN,m+1,HM3,HB3,HO3⟩
          case measure=>simp [Go.RowKit.intOf];omega
        · have hd2:dnB y p k=false:=by simpa using hd
          have hgt:¬(y.t.key<x.t.key):=by
            have h9:=hd2;unfold dnB at h9;simp only [Bool.or_eq_false_iff,decide_eq_false_iff_not] at h9;have h1:=HP.out.1;obtain ⟨i1,e1⟩:=List.getElem?_eq_some_iff.1 hx;obtain ⟨i2,e2⟩:=List.getElem?_eq_some_iff.1 h1;have:=List.pairwise_iff_getElem.1 HRI.out k p i1 i2 (by omega);unfold keyRw at this;rw [e1,e2,HP.out.2] at this;omega
          have hD:=HD.out;rw [hd2] at hD HDN;subst hD;clear hd hd2 HD hx hne;have HOA:Hid (∀o1:Obj,(wr.alloc o1).ownsRow w.heap.size 173 2 _ m (hbRw (stH xs p y k))):=fun o1=>own_belowI HO.out (below_new _ _)
          have HBX:Hid (∀o:Obj,o=.cells #[.int .i64 x.t.key,.slice x.A x.t.n x.c] 173→CRw (wr.alloc o) wr.heap.size 0 x.t x.A x.c):=by
            rintro o rfl;simp [CRw,go_sem]
          have HBA:Hid (∀o1:Obj,Below w.heap.size w (wr.alloc o1)):=fun o1=>below_then HB.out (below_new _ _);clear HO HB;go_wp2_with (first | (at_builtin;refine wpList_appHRw _ rfl (.tmp 60) (.tmp 68) rfl w.heap.size _ m (stH xs p y k) HM.out rfl (HOA.out _) wr.heap.size 1 x rfl (HBX.out _ rfl) (by simp;omega) (by omega) ?_));intro v2 w3 ho3 hg3;have HO3:Hid (w3.ownsRow w.heap.size 173 2 v2 (m+1) (hbRw (stH xs p y (k+1)))):=(by rw [Hid,HST.out];exact ho3);have HM3:Hid ((stH xs p y (k+1)).length=m+1):=(by rw [Hid,HST.out];simp [HM.out]);have HB3:Hid (Below w.heap.size w w3):=(HBA.out (.cells #[.int .i64 x.t.key,.slice x.A x.t.n x.c] 173)).grown hg3 (by simp;omega) fun q9 hq9=>((HOA.out (.cells #[.int .i64 x.t.key,.slice x.A x.t.n x.c] 173)).lt q9 hq9).1;clear ho3 hg3 HOA HBX HBA;go_wp2_with fail;go_roundw
          case rel=>exact ⟨k+1,hlt,by go_num,HDN,m+1,HM3,HB3,HO3⟩
          case measure=>simp [Go.RowKit.intOf];omega
    · have hkn:k=q:=by omega
      have hnl:¬((k:Int)<(q:Int)):=(by omega)
      have hd:dnB y p k=true:=by
        have:p<k:=(by omega);simp [dnB,this]
      have hD:=HD.out;rw [hd] at hD;subst hD;obtain ⟨va,vc,rfl,-,-⟩:=HAtRw.of_row HM.out HO.out;have hL:stH xs p y k=setH xs p y:=(by rw [hkn,←HQ.out];exact stH_last (by rw [HQ.out];exact hpq));have hO:=HO.out;rw [hL] at hO;have hMm:=HM.out;rw [hL] at hMm;have HF:Hid (SeR B xs p y w (.returned (.tuple #[])) (wr.setCell ⟨B,3,none⟩ (.slice va m vc))):=⟨rfl,_,wr,HB.out,rfl,by rw [hMm];exact hO⟩;have f3:wr.frozen? ⟨B,3,none⟩=false:=(World.frozen?_of_block (w:=w) (a:=⟨B,3,none⟩) (HB.out.block B hBl)).trans HF3.out;clear hd HD hkn hL hO hMm HO HM;go_wp2_with fail;go_end0;exact HF.out
def ShA (a:Option Addr) (m cap:Nat):Prop:=m≤cap∧(a=none∧m=0∧cap=0∨∃b off,a=some ⟨b,off,none⟩)
theorem sha_of_row {w:World} {base n:Nat} {v:Value} {xs:List Value} (h:w.ownsRow base 179 4 v n xs):∃a cap,v=.slice a n cap∧ShA a n cap:=by
  rcases h.2 with ⟨rfl,h0⟩ | ⟨g,cap,cur,rfl,_,_,h9,_⟩
  · exact ⟨none,0,by rw [h0],by omega,.inl ⟨rfl,h0,rfl⟩⟩
  · exact ⟨_,cap,rfl,by omega,.inr ⟨_,_,rfl⟩⟩
def VAnsC (m:Nat) (S:Nat→Vr) (w:World) (e:Ending) (w':World):Prop:=∃a cap,e=.returned (.slice a m cap)∧ShA a m cap∧Below w.heap.size w w'∧Own4 w' w.heap.size w'.heap.size a m S
theorem VAnsC.of {w w':World} {v:Value} {xs:List Vr} {base:Nat} (hb:Below w.heap.size w w') (hl:w.heap.size≤base) (h:w'.ownsRow base 179 4 v xs.length (vb xs)):VAnsC xs.length (fun i=>xs.getD i zV) w (.returned v) w':=by
  obtain ⟨a,cap,rfl,hs⟩:=sha_of_row h;exact ⟨a,cap,rfl,hs,hb,(own4_of_row rfl h).wide hl (Nat.le_refl _) (Nat.le_refl _)⟩
def CResC (c:Int) (m:Nat) (S:Nat→Vr) (w:World) (e:Ending) (w':World):Prop:=∃a cap,e=.returned (.agg #[.int .i64 c,.slice a m cap])∧ShA a m cap∧Below w.heap.size w w'∧Own4 w' w.heap.size w'.heap.size a m S
set_option maxHeartbeats 2000000 in
theorem joinedC_any (m:Nat) (A:Nat→Option Addr) (N C:Nat→Nat) (Z:Nat→Nat→Vr) (pb po pc:Nat) (w:World) (hs:∀i,i<m→N i≤100) (hpb:pb<w.heap.size)
    (hp:∀i,i<m→w.cell? ⟨pb,po+i,none⟩=some (.slice (A i) (N i) (C i))∧VersAt w (A i) (N i) (Z i)) (hm:m≤3) :
    Calls Tryz.prog 157 #[.slice (some ⟨pb,po,none⟩) m pc] w (VAnsC (jv N Z m).length (fun i=>(jv N Z m).getD i zV) w):=by
  have HP:Hid (∀i,i<m→w.cell? ⟨pb,po+i,none⟩=some (.slice (A i) (N i) (C i))∧VersAt w (A i) (N i) (Z i)):=hp;clear hp;go_enter Tryz.func157,Tryz.ntmps157;go_wp2_with fail;go_loopw [3,5,8] (fun v _ i wr=>∃k:Nat,k≤m∧i=.int .i64 k∧Hid (Below w.heap.size w wr)∧Hid (wr.ownsRow w.heap.size 179 4 v (jv N Z k).length (vb (jv N Z k)))) (fun _ _ i _=>m-(intOf i).toNat)
  case atStart=>exact ⟨0,by omega,rfl,Below.refl _ _,World.ownsRow_nil _ _ _ _⟩
  case round=>
    obtain ⟨k,hk,rfl,HB,HO⟩:=hrel
    by_cases hlt:k<m
    · have hlt':(k:Int)<(m:Int):=by omega
      have hk1:(0:Int)≤(k:Int):=(by omega);have hc:=cell_below (HP.out k hlt).1 HB.out;have HBA:Hid (VersAt wr (A k) (N k) (Z k)):=(HP.out k hlt).2.below HB.out
      have HLE:Hid ((jv N Z k).length+N k≤100000):=by
        have h1:=jv_len N Z k (fun i hi=>hs i (by omega));have h2:=hs k hlt;show (jv N Z k).length+N k≤100000;omega
      go_wp2_with (at_builtin;refine wpList_appV _ rfl (.tmp 12) (.tmp 13) rfl w.heap.size _ (jv N Z k) rfl HO.out (A k) (N k) (C k) (Z k) rfl HBA.out HLE.out HB.out.size ?_);intro v1 w1 ho1 hg1
      have HO1:Hid (w1.ownsRow w.heap.size 179 4 v1 (jv N Z (k+1)).length (vb (jv N Z (k+1)))):=by
        show w1.ownsRow w.heap.size 179 4 v1 (jv N Z k ++ vL (Z k) (N k)).length (vb (jv N Z k ++ vL (Z k) (N k)));rw [List.length_append];exact ho1
      have HB1:Hid (Below w.heap.size w w1):=HB.out.grown hg1 HB.out.size (fun q hq=>(HO.out.lt q hq).1);clear ho1 hg1;go_wp2_with fail;go_roundw
      case rel=>exact ⟨k+1,hlt,by go_num,HB1,HO1⟩
      case measure=>simp [intOf];omega
    · have hkn:k=m:=by omega
      subst hkn;have HF:=VAnsC.of HB.out (Nat.le_refl _) HO.out;go_wp2_with fail;go_ret;exact HF
theorem OwnRwP.of2 {w:World} {base B M n:Nat} {v:Value} {xs:List HRw} (hn:xs.length=n) (h:w.ownsRow base 173 2 v n (hbRw xs)) (ha:ApRw xs) (hc:∀x ∈ xs,CtRw w B M x) (hv:∀q,v.ownBlock=some q→∀x ∈ xs,q<x.l∨x.h≤q) :
    ∃a cap,v=.slice a n cap∧n≤cap∧OwnRwP w (fun x=>(B≤x∧x<M)∨v.ownBlock=some x) a n (fun i=>(xs.map HRw.t).getD i zRw):=by
  obtain ⟨a,cap,rfl,hcap,hat⟩:=HAtRw.of_row hn h;refine ⟨a,cap,rfl,hcap,?_⟩
  rcases hat with rfl | ⟨b,off,rfl,hl,hcc⟩
  · exact .inl (by simpa using hn.symm)
  have hlt:∀i,i<n→∃x,xs[i]? = some x:=fun i hi=>⟨_,List.getElem?_eq_getElem (by omega)⟩
  let z:HRw:=⟨zRw,none,0,0,0⟩
  refine .inr ⟨b,off,rfl,.inr rfl,hl,fun i=>?_,fun i=>(xs.getD i z).l,fun i=>(xs.getD i z).h,fun i j hi hj hne=>?_,fun i hi=>?_⟩
  · rcases h.2 with ⟨e,_⟩ | ⟨g,_,_,e,_⟩
    · cases e
    · injection e with e;injection e with e;injection e with e1 e2;subst e1;subst e2;exact h.frozenAt _
  · have gi:=List.getElem?_eq_getElem (l:=xs) (i:=i) (by omega);have gj:=List.getElem?_eq_getElem (l:=xs) (i:=j) (by omega);simp only [List.getD_eq_getElem?_getD,gi,gj,Option.getD_some]
    rcases Nat.lt_or_ge i j with c | c
    · exact List.pairwise_iff_getElem.1 ha i j (by omega) (by omega) c
    · exact (List.pairwise_iff_getElem.1 ha j i (by omega) (by omega) (by omega)).symm
  · obtain ⟨x,hx⟩:=hlt i hi;have hmem:=List.mem_of_getElem? hx;obtain ⟨k1,k2,k3⟩:=hc x hmem;have hq:=hv b rfl x hmem;have e1:xs.getD i z=x:=(by simp [List.getD_eq_getElem?_getD,hx]);have e2:(xs.map HRw.t).getD i zRw=x.t:=(by simp [List.getD_eq_getElem?_getD,hx]);simp only [e1,e2];exact ⟨by omega,fun y h1 h2=>.inl (by omega),x.A,x.c,hcc i x hx,k2,k3⟩
theorem row_set {w:World} {base n s:Nat} {e:TypeId} {v:Value} {xs:List Value} {B o:Nat} {u:Value} (h:w.ownsRow base e s v n xs) (hB:B<base):(w.setCell ⟨B,o,none⟩ u).ownsRow base e s v n xs:=
  ownsRow_of h fun q hq=>(Writes.setCell (Writes.refl B (B+1) w) (p:=⟨B,o,none⟩) (Nat.le_refl _) (Nat.lt_succ_self _) u).block q (h.lt q hq).2 (.inr (by have:=(h.lt q hq).1;omega))
structure RlI (W wr:World) (B:Nat) (nx ck:Int) (tsl:Value) (id:Int) (U:Nat→Ud) (n:Nat) (rs:List Rw) (m lo:Nat) (ra:Option Addr) (rc q:Nat) (xs:List HRw):Prop where
  writes:Writes B (B+1) W wr
  box:Box4 wr B (.int .i64 nx) (.int .i64 ck) tsl (.slice ra q rc)
  frz:∀i,wr.frozen? ⟨B,i,none⟩=false
  len:xs.length=q
  own:wr.ownsRow lo 173 2 (.slice ra q rc) q (hbRw xs)
  data:xs.map HRw.t=unL id U n rs m
  ap:ApRw xs
  ct:∀x ∈ xs,CtRw wr lo wr.heap.size x
  far:∀g off,ra=some ⟨g,off,none⟩→g≠B∧∀x ∈ xs,g<x.l∨x.h≤g
  farB:∀x ∈ xs,B<x.l∨x.h≤B
theorem RlI.at_ {W wr:World} {B:Nat} {nx ck:Int} {tsl:Value} {id:Int} {U:Nat→Ud} {n:Nat} {rs:List Rw} {m lo:Nat} {ra:Option Addr} {rc q:Nat} {xs:List HRw} (h:RlI W wr B nx ck tsl id U n rs m lo ra rc q xs):HAtRw wr ra xs:=by
  obtain ⟨a,c,e,_,hat⟩:=HAtRw.of_row h.len h.own;injection e with e;subst e;exact hat
theorem RlI.rows {W wr:World} {B:Nat} {nx ck:Int} {tsl:Value} {id:Int} {U:Nat→Ud} {n:Nat} {rs:List Rw} {m lo:Nat} {ra:Option Addr} {rc q:Nat} {xs:List HRw} (h:RlI W wr B nx ck tsl id U n rs m lo ra rc q xs):RwsAt wr ra q (fun i=>(xs.map HRw.t).getD i zRw):=by
  rcases h.at_ with h1 | ⟨b,off,e,hl,hc⟩
  · left;rw [←h.len,h1];rfl
  · refine .inr ⟨b,off,e,hl,fun i hi=>?_⟩;obtain ⟨x,gi⟩:∃x,xs[i]? = some x:=⟨_,List.getElem?_eq_getElem (by rw [h.len];exact hi)⟩;have e2:(xs.map HRw.t).getD i zRw=x.t:=(by simp [List.getD_eq_getElem?_getD,gi]);have hx:=h.ct _ (List.mem_of_getElem? gi);show ∃ai ci,CRw wr b (off+i*2) ((xs.map HRw.t).getD i zRw) ai ci∧VersAt wr ai ((xs.map HRw.t).getD i zRw).n ((xs.map HRw.t).getD i zRw).U∧((xs.map HRw.t).getD i zRw).n≤ci;rw [e2];exact ⟨_,_,hc i _ gi,hx.2.2.at,hx.2.1⟩
theorem RlI.below {W wr u:World} {B:Nat} {nx ck:Int} {tsl:Value} {id:Int} {U:Nat→Ud} {n:Nat} {rs:List Rw} {m lo:Nat} {ra:Option Addr} {rc q:Nat} {xs:List HRw} (h:RlI W wr B nx ck tsl id U n rs m lo ra rc q xs) (hb:Below wr.heap.size wr u):RlI W u B nx ck tsl id U n rs m lo ra rc q xs:=by
  have hB:B<wr.heap.size:=Go.block_lt_of_cell h.box.1;have hz:=hb.size;exact ⟨h.writes.trans (Writes.of_below hb),h.box.below hb,fun i=>(World.frozen?_of_block (w:=wr) (a:=⟨B,i,none⟩) (hb.block B hB)).trans (h.frz i),h.len,own_belowI h.own hb,h.data,h.ap,fun x hx=>((h.ct x hx).below hb).mono (Nat.le_refl _) hz,h.far,h.farB⟩
theorem Fit.find {U:Nat→Ud} {k:Nat} {xs:List HRw} (h:Fit U (k+1) (xs.map HRw.t)):∃(p:Nat) (x0:HRw),xs[p]? = some x0∧x0.t.key=(U k).k∧0<x0.t.n∧fR xs.length (fun i=>(xs.map HRw.t).getD i zRw) (U k).k=(p:Int):=by
  obtain ⟨r,hr,e⟩:=h.has k (Nat.lt_succ_self _);obtain ⟨x0,hx,rfl⟩:=List.mem_map.1 hr;obtain ⟨p,hp,rfl⟩:=List.mem_iff_getElem.1 hx;have gp:=List.getElem?_eq_getElem (l:=xs) (i:=p) hp;have e2:(xs.map HRw.t).getD p zRw=xs[p].t:=(by simp [List.getD_eq_getElem?_getD,gp]);refine ⟨p,xs[p],gp,e,h.pos _ hr,?_⟩
  have hs:∀j,j<xs.length→∀i,i<j→((xs.map HRw.t).getD i zRw).key<((xs.map HRw.t).getD j zRw).key:=fun j hj i hi=>by
    have h1:=List.pairwise_iff_getElem.1 h.ri i j (by simp;omega) (by simp;omega) hi;simp only [List.getD_eq_getElem?_getD];rw [List.getElem?_eq_getElem (by simp;omega),List.getElem?_eq_getElem (by simp;omega)];exact h1
  have:=fR_self (R:=fun i=>(xs.map HRw.t).getD i zRw) hs hp;simp only [e2,e] at this;exact this
theorem Fit.rising {U:Nat→Ud} {k:Nat} {xs:List HRw} (h:Fit U k (xs.map HRw.t)):RiRw xs:=(List.pairwise_map (f:=HRw.t) (R:=fun x y:Rw=>x.key<y.key)).1 h.ri
theorem setH_data {xs:List HRw} {p:Nat} {x0 y:HRw} {id:Int} {u:Ud} (hri:RiRw xs) (hpos:∀x ∈ xs,0<x.t.n) (hp:xs[p]? = some x0) (hk:x0.t.key=u.k) (hy:y.t=tkR id u x0.t):(setH xs p y).map HRw.t=tkL id u (xs.map HRw.t):=by
  obtain ⟨hlt,e0⟩:=List.getElem?_eq_some_iff.1 hp
  have hx:xs=xs.take p ++ x0 :: xs.drop (p+1):=by
    rw [←e0,←List.drop_eq_getElem_cons hlt,List.take_append_drop]
  have hoth:∀i x,xs[i]? = some x→i≠p→x.t.key≠u.k:=fun i x hi hne e=>by
    obtain ⟨i1,e1⟩:=List.getElem?_eq_some_iff.1 hi
    rcases Nat.lt_trichotomy i p with c | c | c
    · have h9:=List.pairwise_iff_getElem.1 hri i p i1 hlt c;unfold keyRw at h9;rw [e1,e0,e,hk] at h9;omega
    · exact hne c
    · have h9:=List.pairwise_iff_getElem.1 hri p i hlt i1 c;unfold keyRw at h9;rw [e1,e0,e,hk] at h9;omega
  have hsame:∀l:List HRw,(∀x ∈ l,x ∈ xs∧x.t.key≠u.k)→((l.map HRw.t).map (tkF id u)).filter (fun r=>decide (0<r.n))=l.map HRw.t:=by
    intro l hl;induction l with
    | nil=>rfl
    | cons a l ih=>
      have h1:=hl a (List.mem_cons_self ..);have h2:=ih fun x hx=>hl x (List.mem_cons_of_mem _ hx);have h3:tkF id u a.t=a.t:=if_neg h1.2;have h4:=hpos a h1.1;simp only [List.map_cons,h3];rw [List.filter_cons_of_pos (by simpa using h4),h2]
  have ht:=hsame (xs.take p) fun x hx=>by
    obtain ⟨i,hi,rfl⟩:=List.mem_iff_getElem.1 hx;have hi2:i<p:=(by simp at hi;omega);refine ⟨List.mem_of_mem_take hx,?_⟩;rw [List.getElem_take];exact hoth i _ (List.getElem?_eq_getElem (by omega)) (by omega)
  have hd:=hsame (xs.drop (p+1)) fun x hx=>by
    obtain ⟨i,hi,rfl⟩:=List.mem_iff_getElem.1 hx;have hi2:p+1+i<xs.length:=(by simp at hi;omega);refine ⟨List.mem_of_mem_drop hx,?_⟩;rw [List.getElem_drop];exact hoth (p+1+i) _ (List.getElem?_eq_getElem hi2) (by omega)
  have hm:tkF id u x0.t=y.t:=(by rw [hy];exact if_pos hk)
  conv=>rhs;rw [hx]
  unfold tkL setH;rw [List.map_append,List.map_append,List.map_append (f:=HRw.t) (l₁:=xs.take p) (l₂:=x0 :: xs.drop (p+1)),List.map_append,List.filter_append,ht,List.append_assoc]
  congr 1
  rw [List.map_cons,List.map_cons,hm]
  by_cases hn:y.t.n=0
  · rw [if_pos hn,List.filter_cons_of_neg (by simp [hn]),hd];rfl
  · rw [if_neg hn,List.filter_cons_of_pos (by simp;omega),hd];rfl
theorem setH_mem {xs:List HRw} {p:Nat} {y x:HRw} (h:x ∈ setH xs p y):x ∈ xs∨x=y:=by
  unfold setH at h
  rcases List.mem_append.1 h with h | h
  · rcases List.mem_append.1 h with h | h
    · exact .inl (List.mem_of_mem_take h)
    · split at h
      · simp at h
      · exact .inr (by simpa using h)
  · exact .inl (List.mem_of_mem_drop h)
theorem setH_ap {xs:List HRw} {p N:Nat} {y:HRw} (h:ApRw xs) (hx:∀x ∈ xs,x.h≤N) (hy:N≤y.l):ApRw (setH xs p y):=by
  have hm:∀z ∈ (if y.t.n=0 then [] else [y]:List HRw),z=y:=fun z hz=>by
    split at hz
    · simp at hz
    · simpa using hz
  unfold setH ApRw;rw [List.append_assoc];refine List.pairwise_append.2 ⟨h.sublist (List.take_sublist _ _),List.pairwise_append.2 ⟨?_,h.sublist (List.drop_sublist _ _),fun a ha b hb=>?_⟩,fun a ha b hb=>?_⟩
  · split <;> simp
  · rw [hm a ha];have:=hx b (List.mem_of_mem_drop hb);right;omega
  · rcases List.mem_append.1 hb with hb | hb
    · rw [hm b hb];have:=hx a (List.mem_of_mem_take ha);left;omega
    · have hsub:List.Sublist (xs.take p ++ xs.drop (p+1)) xs:=by
        conv=>rhs;rw [←List.take_append_drop p xs]
        exact List.Sublist.append (List.Sublist.refl _) (by rw [←List.drop_drop];exact List.drop_sublist _ _)
      exact (List.pairwise_append.1 (h.sublist hsub)).2.2 a ha b hb
theorem RlI.step {W wr u u2:World} {B:Nat} {nx ck:Int} {tsl:Value} {id:Int} {U:Nat→Ud} {n:Nat} {rs:List Rw} {m lo:Nat} {ra ra2:Option Addr} {rc q rc2 q2 p:Nat} {xs:List HRw} {x0 y:HRw} (h:RlI W wr B nx ck tsl id U n rs m lo ra rc q xs)
    (hb:Below wr.heap.size wr u) (hb2:Below u.heap.size u u2) (hlo:lo≤wr.heap.size) (hm:m<n) (hpos:∀x ∈ xs,0<x.t.n) (hri:RiRw xs) (hp:xs[p]? = some x0) (hk:x0.t.key=(U (n-1-m)).k) (hy:y.t=tkR id (U (n-1-m)) x0.t) (hyl:y.l=wr.heap.size) (hyh:y.h≤u.heap.size) (hyc:y.t.n≤y.c) (hyo:Own4 u y.l y.h y.A y.t.n y.t.U)
    (hq:(setH xs p y).length=q2) (ho:u2.ownsRow u.heap.size 173 2 (.slice ra2 q2 rc2) q2 (hbRw (setH xs p y))):RlI W (u2.setCell ⟨B,3,none⟩ (.slice ra2 q2 rc2)) B nx ck tsl id U n rs (m+1) lo ra2 rc2 q2 (setH xs p y):=by
  have hB:B<wr.heap.size:=Go.block_lt_of_cell h.box.1;have hz:=hb.size;have hz2:=hb2.size;have hz9:(u2.setCell ⟨B,3,none⟩ (.slice ra2 q2 rc2)).heap.size=u2.heap.size:=(by simp [World.setCell]);have hw9:Writes B (B+1) u2 (u2.setCell ⟨B,3,none⟩ (.slice ra2 q2 rc2)):=Writes.setCell (Writes.refl _ _ _) (p:=⟨B,3,none⟩) (Nat.le_refl _) (Nat.lt_succ_self _) _;have h2:=h.below (below_then hb hb2);obtain ⟨b0,b1,b2,b3⟩:=h2.box;refine ⟨h2.writes.trans hw9,⟨(setO (by omega)).trans b0,(setO (by omega)).trans b1,(setO (by omega)).trans b2,World.cell?_setCell_same _ _ _ b3⟩,fun i=>by rw [World.frozen?_setCell];exact h2.frz i,hq,?_,?_,?_,?_,?_,?_⟩
  · exact row_base (row_set ho (by omega)) (by omega)
  · rw [setH_data hri hpos hp hk hy,h.data];rfl
  · refine setH_ap (N:=wr.heap.size) h.ap (fun x hx=>?_) (by omega);have:=(h.ct x hx).1;omega
  · intro x hx
    rcases setH_mem hx with hx | rfl
    · obtain ⟨k1,k2,k3⟩:=h2.ct x hx;have hf:=h.farB x hx;exact ⟨by rw [hz9];exact k1,k2,k3.writes hw9 (by omega)⟩
    · exact ⟨by rw [hz9];omega,hyc,(hyo.below hb2).writes hw9 (by omega)⟩
  · intro g off e;subst e;have hg:=ho.lt g rfl;refine ⟨by omega,fun x hx=>?_⟩
    rcases setH_mem hx with hx | rfl
    · have:=(h.ct x hx).1;omega
    · omega
  · intro x hx
    rcases setH_mem hx with hx | rfl
    · exact h.farB x hx
    · omega
theorem eres_bad2 {c:Int} {w w':World} (hb:Below w.heap.size w w'):ERes2 c 0 zEn w (.returned (.agg #[.int .i64 c,.int .i64 0,.int .i64 0,.int .i64 0,.slice none 0 0,.slice none 0 0])) w':=by
  obtain ⟨a,cap,a',cap',h1,h2,h3⟩:=eres_bad (c:=c) hb;exact ⟨a,cap,a',cap',h1,h2,h3.to2⟩
end Go.Proofs.YtjdodbiphijjgaaGreat
