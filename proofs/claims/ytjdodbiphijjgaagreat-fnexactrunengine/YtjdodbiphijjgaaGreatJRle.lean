import Derived.Test.YtjdodbiphijjgaaGreatJRqr
import Derived.Test.YtjdodbiphijjgaaGreatJFf
import Derived.Test.YtjdodbiphijjgaaGreatJRqc
import Derived.Test.YtjdodbiphijjgaaGreatJVj
import Derived.Test.YtjdodbiphijjgaaGreatJGg
import Derived.Shelf.RegionOpen
import Derived.RangeFuncCalls
import Derived.Test.YtjdodbiphijjgaaGreatJNb
namespace Go.Proofs.YtjdodbiphijjgaaGreat
open Go.RowKit Go.Deep
set_option linter.unusedVariables false
set_option linter.unusedSimpArgs false
set_option maxRecDepth 20000
open Go.RowKit Go.Deep Go.Shelf
def rtC (E:En) (id save:Int):Int:=if askC E id=0 then (if inB save 0 ((E.T (askP E id).toNat).n:Int)=true then 0 else 3) else askC E id
def rtV (E:En) (id save:Int):Int:=if rtC E id save=0 then save else 0
def rtE (E:En) (id save:Int):En:=if rtC E id save=0 then rlE E (askP E id).toNat save.toNat (E.T (askP E id).toNat).st else zEn
def abE (E:En) (id:Int):En:=if askC E id=0 then rlE E (askP E id).toNat 0 3 else zEn
theorem rt_bad {E:En} {id save:Int} (h:askC E id≠0):rtC E id save=askC E id∧rtV E id save=0∧rtE E id save=zEn:=by
  have e:rtC E id save=askC E id:=if_neg h;exact ⟨e,if_neg (by rw [e];exact h),if_neg (by rw [e];exact h)⟩
theorem rt_out {E:En} {id save:Int} (h:askC E id=0) (hs:inB save 0 ((E.T (askP E id).toNat).n:Int)=false):rtC E id save=3∧rtV E id save=0∧rtE E id save=zEn:=by
  have e:rtC E id save=3:=(by unfold rtC;rw [if_pos h,if_neg (by rw [hs];simp)]);exact ⟨e,if_neg (by rw [e];omega),if_neg (by rw [e];omega)⟩
theorem rt_ok {E:En} {id save:Int} (h:askC E id=0) (hs:inB save 0 ((E.T (askP E id).toNat).n:Int)=true):rtC E id save=0∧rtV E id save=save∧rtE E id save=rlE E (askP E id).toNat save.toNat (E.T (askP E id).toNat).st:=by
  have e:rtC E id save=0:=(by unfold rtC;rw [if_pos h,if_pos hs]);exact ⟨e,if_pos e,if_pos e⟩
theorem OwnTx.cut {w w1:World} {lo hi b off n j:Nat} {T:Nat→Tx} {t:Tx} (h:OwnTx w lo hi (some ⟨b,off,none⟩) n T) (hj:j<n) (hw:Writes b (b+1) w w1)
    (hfar:∀o',(o'<off+j*5∨off+j*5+4<o')→w1.cell? ⟨b,o',none⟩=w.cell? ⟨b,o',none⟩) (hfr:∀i,w1.frozen? ⟨b,i,none⟩=w.frozen? ⟨b,i,none⟩) (hC:∀ui uc,CTx w b (off+j*5) (T j) ui uc→CTx w1 b (off+j*5) t ui uc) (hn:t.n≤(T j).n) (hU:t.U=(T j).U) :
    OwnTx w1 lo hi (some ⟨b,off,none⟩) n (upf T j t):=by
  obtain ⟨h0,h1 | ⟨b1,off1,ha,hlo,hl,hf,l,h,hd,hc⟩⟩:=h
  · omega
  simp only [Option.some.injEq,Addr.mk.injEq,and_true] at ha;obtain ⟨rfl,rfl⟩:=ha;have hsz:=hw.size;refine ⟨Nat.le_trans h0 hsz,.inr ⟨b,off,rfl,hlo,hl,fun i=>(hfr i).trans (hf i),l,h,hd,fun i hi=>?_⟩⟩;obtain ⟨k0,k1,ai,ci,k2,k3,k4⟩:=hc i hi
  by_cases e:i=j
  · subst e;rw [upf_eq];refine ⟨k0,k1,ai,ci,hC _ _ k2,by omega,?_⟩;rw [hU];obtain ⟨m0,m1⟩:=k4.writes hw (by omega);refine ⟨m0,?_⟩
    rcases m1 with m1 | ⟨b2,o2,e2,m2,m3,m4⟩
    · exact .inl (by omega)
    · exact .inr ⟨b2,o2,e2,m2,m3,fun i hi=>m4.1 i (by omega),m4.2⟩
  · rw [upf_ne _ _ e];refine ⟨k0,k1,ai,ci,?_,k3,k4.writes hw (by omega)⟩;have g:∀q,q<5→w1.cell? ⟨b,off+i*5+q,none⟩=w.cell? ⟨b,off+i*5+q,none⟩:=fun q hq=>hfar _ (by omega);obtain ⟨g0,g1,g2,g3,g4⟩:=k2;exact ⟨(g 0 (by omega)).trans g0,(g 1 (by omega)).trans g1,(g 2 (by omega)).trans g2,(g 3 (by omega)).trans g3,(g 4 (by omega)).trans g4⟩
theorem RlI.start {w2 W:World} {E:En} {M B vd:Nat} {tsl:Value} {vb:Option Addr} {id:Int} {U:Nat→Ud} {n:Nat} (hg:GrRw M w2.heap.size w2 (.slice vb E.q vd) E.q E.R) (hb:Below w2.heap.size w2 W) (hB:B=w2.heap.size) (hbox:Box4 W B (.int .i64 E.nx) (.int .i64 E.ck) tsl (.slice vb E.q vd)) (hfz:∀i,W.frozen? ⟨B,i,none⟩=false) :
    ∃xs,RlI W W B E.nx E.ck tsl id U n (rwL E) 0 M vb vd E.q xs:=by
  obtain ⟨xs,lxs,dxs,oxs,vxs,axs,cxs⟩:=hg.list;have hz:=hb.size;refine ⟨xs,Writes.refl _ _ _,hbox,hfz,lxs,own_belowI oxs hb,dxs,axs,fun x hx=>((cxs x hx).2.below hb).mono (Nat.le_refl _) hz,fun g off e=>?_,fun x hx=>?_⟩
  · subst e;have:=vxs g rfl;exact ⟨by omega,fun x hx=>(cxs x hx).1 g rfl⟩
  · have:=(cxs x hx).2.1;omega
theorem RlI.rowsP {W wr:World} {B:Nat} {nx ck:Int} {tsl:Value} {id:Int} {U:Nat→Ud} {n:Nat} {rs:List Rw} {m lo:Nat} {ra:Option Addr} {rc q:Nat} {xs:List HRw} (h:RlI W wr B nx ck tsl id U n rs m lo ra rc q xs) (hlo:lo≤wr.heap.size):q=(unL id U n rs m).length∧OwnRwP wr (fun x=>lo≤x∧x<wr.heap.size) ra q (fun i=>(unL id U n rs m).getD i zRw):=by
  have hq:q=(unL id U n rs m).length:=(by rw [←h.data,List.length_map,h.len]);refine ⟨hq,?_⟩
  obtain ⟨a,cap,e,hc,hP⟩:=OwnRwP.of2 (B:=lo) (M:=wr.heap.size) h.len h.own h.ap h.ct (fun g hg x hx=>by
    rcases h.own.2 with ⟨e,_⟩ | ⟨g2,c2,cu,e,_⟩
    · injection e with e;subst e;simp [Value.ownBlock] at hg
    · injection e with e;subst e;simp only [Value.ownBlock,Option.some.injEq] at hg;subst hg
      exact (h.far _ _ rfl).2 x hx)
  injection e with e1;subst e1;rw [h.data] at hP;refine hP.mono fun x hx=>?_
  rcases hx with hx | hx
  · exact hx
  · have:=h.own.lt x hx;omega
theorem rl_res {w S w7:World} {E:En} {j sv b0 M N q rc vc:Nat} {st c v:Int} {a ra:Option Addr} (hb:Below w.heap.size w S) (hT:OwnTx S b0 M a E.p (upf E.T j ⟨(E.T j).id,(E.T j).am,st,(E.T j).dn,sv,(E.T j).U⟩)) (hQ:OwnRwP S (fun x=>M≤x∧x<N) ra q (fun i=>(unL (E.T j).id (E.T j).U (E.T j).n (rwL E) ((E.T j).n-sv)).getD i zRw)) (hq:q=(unL (E.T j).id (E.T j).U (E.T j).n (rwL E) ((E.T j).n-sv)).length)
    (g:Writes (w.heap.size+1) (w.heap.size+2) S w7) (hz:w7.heap.size=S.heap.size) (h1:w.heap.size+2≤b0) (h2:b0≤M) (h3:N≤S.heap.size) :
    ERes2 c v (rlE E j sv st) w (.returned (.agg #[.int .i64 c,.int .i64 v,.int .i64 E.nx,.int .i64 E.ck,.slice a E.p vc,.slice ra q rc])) w7:=by
  subst hq;have hM:=hT.1;refine ⟨a,vc,ra,rc,rfl,Writes.below hb g (by omega),by omega,_,_,fun x hx=>?_,fun x hx=>?_,fun x hx hy=>?_,(hT.writes g (.inr (by omega))).toP,hQ.keep (by omega) fun x hx hl=>g.block x hl (.inr (by omega))⟩
  · omega
  · omega
  · omega
theorem upf_upf9 {α:Type} (f:Nat→α) (k:Nat) (a b:α):upf (upf f k a) k b=upf f k b:=by
  funext i
  by_cases e:i=k
  · subst e;rw [upf_eq,upf_eq]
  · rw [upf_ne _ _ e,upf_ne _ _ e,upf_ne _ _ e]
theorem kept_heap {w u:World} {row:Option Nat} {b i:Nat} {v:Value} (hc:w.cell? ⟨b,i,none⟩=some v) (hg:w.grownBy u row) (hr:∀r,row=some r→∃o:Obj,w.heap[r]? = some o∧o.isCells=false):u.heap[b]? = w.heap[b]?:=by
  refine hg.block b (Go.block_lt_of_cell hc) fun e=>?_;obtain ⟨o,ho,hk⟩:=hr b e.symm;unfold World.cell? at hc;rw [ho] at hc
  cases o <;> simp_all [Obj.isCells]
theorem own4_kept {w u:World} {row:Option Nat} {lo hi n:Nat} {A:Option Addr} {U:Nat→Vr} (h:Own4 w lo hi A n U) (hg:w.grownBy u row) (hr:∀r,row=some r→∃o:Obj,w.heap[r]? = some o∧o.isCells=false):Own4 u lo hi A n U:=by
  obtain ⟨h0,h1 | ⟨b,off,e,h2,h3,h4⟩⟩:=h
  · exact ⟨Nat.le_trans h0 hg.size,.inl h1⟩
  · by_cases hn:n=0
    · exact ⟨Nat.le_trans h0 hg.size,.inl hn⟩
    · have hb:=kept_heap (h4.1 0 (by omega)).1 hg hr;exact ⟨Nat.le_trans h0 hg.size,.inr ⟨b,off,e,h2,h3,fun i hi=>(h4.1 i hi).block hb,fun i=>(World.frozen?_of_block (w:=w) (a:=⟨b,i,none⟩) hb).trans (h4.2 i)⟩⟩
theorem RpI.grown {W wr u:World} {B:Nat} {nx ck:Int} {tsl:Value} {M:Nat} {ra:Option Addr} {rc q:Nat} {xs:List HRw} {row:Option Nat} (h:RpI W wr B nx ck tsl M ra rc q xs) (hg:wr.grownBy u row) (hr:∀r,row=some r→W.heap.size≤r∧∃o:Obj,wr.heap[r]? = some o∧o.isCells=false):RpI W u B nx ck tsl M ra rc q xs:=by
  have hr2:∀r,row=some r→∃o:Obj,wr.heap[r]? = some o∧o.isCells=false:=fun r e=>(hr r e).2;have hB:=kept_heap h.box.1 hg hr2;refine ⟨⟨hg.os.trans h.writes.os,hg.tape.trans h.writes.tape,hg.output.trans h.writes.output,Nat.le_trans h.writes.size hg.size,fun k hk hd=>(hg.block k (by have:=h.writes.size;omega) (fun e=>by have:=(hr k e.symm).1;omega)).trans (h.writes.block k hk hd)⟩,?_,fun i=>(World.frozen?_of_block (w:=wr) (a:=⟨B,i,none⟩) hB).trans (h.frz i),h.len,h.qc,h.mb,h.bw,?_,h.ap,fun x hx=>?_,h.farB⟩
  · obtain ⟨b0,b1,b2,b3⟩:=h.box;have g:∀i,u.cell? ⟨B,i,none⟩=wr.cell? ⟨B,i,none⟩:=fun i=>World.cell?_of_block (w:=wr) (a:=⟨B,i,none⟩) hB;exact ⟨(g _).trans b0,(g _).trans b1,(g _).trans b2,(g _).trans b3⟩
  · rcases h.hd with h1 | ⟨g,off,e,hl,k1,k2,k3,hc⟩
    · exact .inl h1
    · cases xs with
      | nil=>exact .inl rfl
      | cons x xs=>
        have hb:=kept_heap (hc 0 x rfl).1 hg hr2;exact .inr ⟨g,off,e,Nat.lt_of_lt_of_le hl hg.size,k1,fun i=>(World.frozen?_of_block (w:=wr) (a:=⟨g,i,none⟩) hb).trans (k2 i),k3,fun i y hy=>(hc i y hy).block hb⟩
  · obtain ⟨m1,m2,m3⟩:=h.ct x hx;exact ⟨by have:=hg.size;omega,m2,own4_kept m3 hg hr2⟩
theorem RpI.start {w2 W:World} {E:En} {M B vd:Nat} {tsl:Value} {vb:Option Addr} (hg:GrRw M w2.heap.size w2 (.slice vb E.q vd) E.q E.R) (hM:M≤w2.heap.size) (hb:Below w2.heap.size w2 W) (hB:B=w2.heap.size) (hbox:Box4 W B (.int .i64 E.nx) (.int .i64 E.ck) tsl (.slice vb E.q vd)) (hfz:∀i,W.frozen? ⟨B,i,none⟩=false) :
    ∃xs,xs.map HRw.t=rwL E∧RpI W W B E.nx E.ck tsl M vb vd E.q xs:=by
  obtain ⟨xs,lxs,dxs,oxs,vxs,axs,cxs⟩:=hg.list;have hz:=hb.size;have hBW:B<W.heap.size:=Go.block_lt_of_cell hbox.1;obtain ⟨a9,c9,e9,hqc,hat⟩:=HAtRw.of_row lxs oxs;injection e9 with ea _ ec;subst ea ec;refine ⟨xs,dxs,Writes.refl _ _ _,hbox,hfz,lxs,hqc,by omega,hBW,?_,axs,fun x hx=>((cxs x hx).2.below hb).mono (Nat.le_refl _) hz,fun x hx=>?_⟩
  · rcases hat with h1 | ⟨g,off,e,hl,hc⟩
    · exact .inl h1
    · subst e
      obtain rfl:off=0:=by
        rcases oxs.2 with ⟨e9,_⟩ | ⟨g2,c2,cu,e9,_⟩
        · cases e9
        · injection e9 with e9;injection e9 with e9;injection e9
      have hgt:=vxs g rfl;have hg2:=oxs.lt g rfl;have eb:=hb.block g hl;exact .inr ⟨g,0,rfl,by omega,.inl (by omega),fun i=>(World.frozen?_of_block (w:=w2) (a:=⟨g,i,none⟩) eb).trans (oxs.frozenAt i),fun x hx=>(cxs x hx).1 g rfl,fun i x hx=>(hc i x hx).block eb⟩
  · have:=(cxs x hx).2.1;left;omega
theorem RpI.rowsP {W wr:World} {B:Nat} {nx ck:Int} {tsl:Value} {M:Nat} {ra:Option Addr} {rc q:Nat} {xs:List HRw} (h:RpI W wr B nx ck tsl M ra rc q xs):OwnRwP wr (fun x=>(M≤x∧x<B)∨(W.heap.size≤x∧x<wr.heap.size)) ra q (fun i=>(xs.map HRw.t).getD i zRw):=by
  rcases h.hd with h1 | ⟨g,off,e,hl,k1,k2,k3,hc⟩
  · left;rw [←h.len,h1];rfl
  · refine .inr ⟨g,off,e,by omega,hl,k2,fun i=>(xs.getD i ⟨zRw,none,0,0,0⟩).l,fun i=>(xs.getD i ⟨zRw,none,0,0,0⟩).h,fun i j hi hj hne=>?_,fun i hi=>?_⟩
    · have hi2:i<xs.length:=by rw [h.len];exact hi
      have hj2:j<xs.length:=(by rw [h.len];exact hj);simp only [List.getD_eq_getElem?_getD,List.getElem?_eq_getElem hi2,List.getElem?_eq_getElem hj2,Option.getD_some]
      rcases Nat.lt_trichotomy i j with c | c | c
      · exact List.pairwise_iff_getElem.1 h.ap i j hi2 hj2 c
      · exact absurd c hne
      · exact (List.pairwise_iff_getElem.1 h.ap j i hj2 hi2 c).symm
    · obtain ⟨x,gi⟩:∃x,xs[i]? = some x:=⟨_,List.getElem?_eq_getElem (by rw [h.len];exact hi)⟩;have e2:(xs.map HRw.t).getD i zRw=x.t:=(by simp [List.getD_eq_getElem?_getD,gi]);have e3:xs.getD i ⟨zRw,none,0,0,0⟩=x:=(by simp [List.getD_eq_getElem?_getD,gi]);have hm:=List.mem_of_getElem? gi;obtain ⟨m1,m2,m3⟩:=h.ct x hm;have m4:=h.farB x hm;simp only [e2,e3];exact ⟨k3 x hm,fun y y1 y2=>by omega,x.A,x.c,hc i x gi,m2,m3⟩
theorem OwnTx.putP {w w1:World} {l0 h0 b off n j lo hi uc:Nat} {ai:Option Addr} {T:Nat→Tx} {t:Tx} (h:OwnTx w l0 h0 (some ⟨b,off,none⟩) n T) (hj:j<n) (hw:∀x,l0≤x→x<h0→x≠b→w1.heap[x]? = w.heap[x]?) (hs:w.heap.size≤w1.heap.size)
    (hfar:∀o',(o'<off+j*5∨off+j*5+4<o')→w1.cell? ⟨b,o',none⟩=w.cell? ⟨b,o',none⟩) (hfr:∀i,w1.frozen? ⟨b,i,none⟩=w.frozen? ⟨b,i,none⟩) (hC:CTx w1 b (off+j*5) t ai uc) (hn:t.n≤uc) (h1:h0≤lo) (hU:OwnU w1 lo hi ai t.n t.U) :
    OwnTxP w1 (fun x=>(l0≤x∧x<h0)∨(lo≤x∧x<hi)) (some ⟨b,off,none⟩) n (upf T j t):=by
  obtain ⟨hz,h9 | ⟨b1,off1,ha,hlo,hl,hf,l,h,hd,hc⟩⟩:=h
  · omega
  simp only [Option.some.injEq,Addr.mk.injEq,and_true] at ha;obtain ⟨rfl,rfl⟩:=ha;refine .inr ⟨b,off,rfl,.inl ⟨hlo,hl⟩,by omega,fun i=>(hfr i).trans (hf i),fun i=>if i=j then lo else l i,fun i=>if i=j then hi else h i,fun i k hi2 hk hne=>?_,fun i hi2=>?_⟩
  · by_cases e1:i=j <;> by_cases e2:k=j <;> simp only [e1,e2,if_true,if_false]
    · omega
    · have:=(hc k hk).2.1;omega
    · have:=(hc i hi2).2.1;omega
    · exact hd i k hi2 hk hne
  · by_cases e:i=j
    · subst e;simp only [if_true];rw [upf_eq];exact ⟨by omega,fun x x1 x2=>.inr ⟨x1,x2⟩,ai,uc,hC,hn,hU⟩
    · simp only [e,if_false];rw [upf_ne _ _ e];obtain ⟨k0,k1,ai2,ci2,k2,k3,k4⟩:=hc i hi2;refine ⟨k0,fun x x1 x2=>.inl (by omega),ai2,ci2,?_,k3,OwnU_keepTx k4 hs fun x x1 x2 x3=>hw x (by omega) (by omega) (by omega)⟩;have g:∀q,q<5→w1.cell? ⟨b,off+i*5+q,none⟩=w.cell? ⟨b,off+i*5+q,none⟩:=fun q hq=>hfar _ (by omega);obtain ⟨g0,g1,g2,g3,g4⟩:=k2;exact ⟨(g 0 (by omega)).trans g0,(g 1 (by omega)).trans g1,(g 2 (by omega)).trans g2,(g 3 (by omega)).trans g3,(g 4 (by omega)).trans g4⟩
theorem box4_put (w:World) (B:Nat) (c0 c1 c2 c3:Value) {z0 z1 z2 z3:Value} (h:Box4 w B z0 z1 z2 z3) :
    Box4 ((((w.setCell ⟨B,0,none⟩ c0).setCell ⟨B,1,none⟩ c1).setCell ⟨B,2,none⟩ c2).setCell ⟨B,3,none⟩ c3) B c0 c1 c2 c3∧
    Writes B (B+1) w ((((w.setCell ⟨B,0,none⟩ c0).setCell ⟨B,1,none⟩ c1).setCell ⟨B,2,none⟩ c2).setCell ⟨B,3,none⟩ c3)∧
    ((((w.setCell ⟨B,0,none⟩ c0).setCell ⟨B,1,none⟩ c1).setCell ⟨B,2,none⟩ c2).setCell ⟨B,3,none⟩ c3).heap.size=w.heap.size:=by
  obtain ⟨h0,h1,h2,h3⟩:=h;refine ⟨⟨?_,?_,?_,?_⟩,?_,by simp [World.setCell]⟩
  · rw [setO (by omega),setO (by omega),setO (by omega)];exact setS h0
  · rw [setO (by omega),setO (by omega)];exact setS ((setO (by omega)).trans h1)
  · rw [setO (by omega)];exact setS ((setO (by omega)).trans ((setO (by omega)).trans h2))
  · exact setS ((setO (by omega)).trans ((setO (by omega)).trans ((setO (by omega)).trans h3)))
  · exact (((Writes.refl _ _ _).setCell (p:=⟨B,0,none⟩) (Nat.le_refl _) (Nat.lt_succ_self _) _).setCell (p:=⟨B,1,none⟩) (Nat.le_refl _) (Nat.lt_succ_self _) _ |>.setCell (p:=⟨B,2,none⟩) (Nat.le_refl _) (Nat.lt_succ_self _) _).setCell (p:=⟨B,3,none⟩) (Nat.le_refl _) (Nat.lt_succ_self _) _
theorem ownU_kept {w u:World} {row:Option Nat} {lo hi n:Nat} {A:Option Addr} {U:Nat→Ud} (h:OwnU w lo hi A n U) (hg:w.grownBy u row) (hr:∀r,row=some r→∃o:Obj,w.heap[r]? = some o∧o.isCells=false):OwnU u lo hi A n U:=by
  obtain ⟨h0,h1 | ⟨b,off,e,h2,h3,h4⟩⟩:=h
  · exact ⟨Nat.le_trans h0 hg.size,.inl h1⟩
  · by_cases hn:n=0
    · exact ⟨Nat.le_trans h0 hg.size,.inl hn⟩
    · have hb:=kept_heap (h4.1 0 (by omega)).1 hg hr;exact ⟨Nat.le_trans h0 hg.size,.inr ⟨b,off,e,h2,h3,fun i hi=>(h4.1 i hi).block hb,fun i=>(World.frozen?_of_block (w:=w) (a:=⟨b,i,none⟩) hb).trans (h4.2 i)⟩⟩
theorem OwnRwP.kept {w u:World} {row:Option Nat} {P:Nat→Prop} {a:Option Addr} {n:Nat} {T:Nat→Rw} (h:OwnRwP w P a n T) (hg:w.grownBy u row) (hr:∀r,row=some r→∃o:Obj,w.heap[r]? = some o∧o.isCells=false):OwnRwP u P a n T:=by
  obtain h1 | ⟨b,off,ha,h2,hl,hf,l,h,hj,hc⟩:=h
  · exact .inl h1
  · by_cases hn:n=0
    · exact .inl hn
    · obtain ⟨_,_,ai0,ci0,k0,_,_⟩:=hc 0 (by omega);have hb:=kept_heap k0.1 hg hr;refine .inr ⟨b,off,ha,h2,Nat.lt_of_lt_of_le hl hg.size,fun i=>(World.frozen?_of_block (w:=w) (a:=⟨b,i,none⟩) hb).trans (hf i),l,h,hj,fun i hi=>?_⟩;obtain ⟨m0,m1,ai,ci,m2,m3,m4⟩:=hc i hi;exact ⟨m0,m1,ai,ci,m2.block hb,m3,own4_kept m4 hg hr⟩
theorem OwnTxP.kept {w u:World} {row:Option Nat} {P:Nat→Prop} {a:Option Addr} {n:Nat} {T:Nat→Tx} (h:OwnTxP w P a n T) (hg:w.grownBy u row) (hr:∀r,row=some r→∃o:Obj,w.heap[r]? = some o∧o.isCells=false):OwnTxP u P a n T:=by
  obtain h1 | ⟨b,off,ha,h2,hl,hf,l,h,hj,hc⟩:=h
  · exact .inl h1
  · by_cases hn:n=0
    · exact .inl hn
    · obtain ⟨_,_,ai0,ci0,k0,_,_⟩:=hc 0 (by omega);have hb:=kept_heap k0.1 hg hr;refine .inr ⟨b,off,ha,h2,Nat.lt_of_lt_of_le hl hg.size,fun i=>(World.frozen?_of_block (w:=w) (a:=⟨b,i,none⟩) hb).trans (hf i),l,h,hj,fun i hi=>?_⟩;obtain ⟨m0,m1,ai,ci,m2,m3,m4⟩:=hc i hi;exact ⟨m0,m1,ai,ci,m2.block hb,m3,ownU_kept m4 hg hr⟩
attribute [local go_sem] Oper.semAt_some
theorem res_rolled (a:Act) (d:Nat) (v:Value) (hd:d≠6):results Tryz.f199 (a.put (some d) v).tmps=results Tryz.f199 a.tmps:=by
  have h6:(a.tmps.setIfInBounds d v)[6]? = a.tmps[6]?:=(by simp [Array.getElem?_setIfInBounds,hd]);simp [results,Tryz.results199,Act.put,h6]
theorem rolledQ {F:Fence} {n:Nat} {K:Act→World→Prop} {R:Ending→World→Prop} {d:Nat} {v:Value} (hd:d≠6):∀c a w,Exit.then K (bodyPostM F n Tryz.prog Tryz.f199 R) (.panic c) (a.put (some d) v) w→Exit.then K (bodyPostM F n Tryz.prog Tryz.f199 R) (.panic c) a w:=
  fun c a w h=>leavesM_same (res_rolled a d v hd) _ _ _ h
def frU (ui:Option Addr) (uc l:Nat):Option Addr:=if uc=l then ui else ui.map (·.add (l*4))
theorem run_fromU (ui:Option Addr) (n uc l:Nat) (h:l≤n) (u:World):(Instr.slice 125 (.slice ui n uc) (some (.int .i64 (l:Int))) none none).run Tryz.prog u=.ok (.slice (frU ui uc l) (n-l) (uc-l)) u:=by
  simp [Instr.slice,Instr.sliceBounds,Instr.sliceBound,asIntOf,go_sem,frU,h]
theorem run_uptoU (ui:Option Addr) (n uc l:Nat) (h:l≤uc) (u:World):(Instr.slice 125 (.slice ui n uc) none (some (.int .i64 (l:Int))) none).run Tryz.prog u=.ok (.slice (frU ui uc 0) l uc) u:=by
  simp [Instr.slice,Instr.sliceBounds,Instr.sliceBound,asIntOf,go_sem,frU,h]
theorem frU_at {w:World} {ui:Option Addr} {n uc l:Nat} {U:Nat→Ud} (h:UndsAt w ui n U) (hl:l≤n) (hc:n≤uc):UndsAt w (frU ui uc l) (n-l) (fun i=>U (l+i)):=by
  rcases h with h | ⟨b,off,rfl,hb,hu⟩
  · exact .inl (by omega)
  · by_cases e:uc=l
    · exact .inl (by omega)
    · refine .inr ⟨b,off+l*4,by simp [frU,e,Addr.add],hb,fun i hi=>?_⟩;rw [show off+l*4+i*4=off+(l+i)*4 by omega];exact hu (l+i) (by omega)
theorem frU_pre {w:World} {ui:Option Addr} {n uc l:Nat} {U:Nat→Ud} (h:UndsAt w ui n U) (hl:l≤n) (hc:n≤uc):UndsAt w (frU ui uc 0) l U:=by
  rcases h with h | ⟨b,off,rfl,hb,hu⟩
  · exact .inl (by omega)
  · by_cases e:uc=0
    · exact .inl (by omega)
    · exact .inr ⟨b,off,by simp [frU,e,Addr.add],hb,fun i hi=>hu i (by omega)⟩
def RtA (E:En) (j sv:Nat) (w:World) (e:Ending) (w':World):Prop:=
  ∃a vc ra rc q,e=.returned (.agg #[.int .i64 E.nx,.int .i64 E.ck,.slice a E.p vc,.slice ra q rc])∧Below w.heap.size w w'∧q=(unL (E.T j).id (E.T j).U (E.T j).n (rwL E) ((E.T j).n-sv)).length∧
    ∃P Q:Nat→Prop,(∀x,P x→w.heap.size≤x∧x<w'.heap.size)∧(∀x,Q x→w.heap.size≤x∧x<w'.heap.size)∧(∀x,P x→¬Q x)∧OwnTxP w' P a E.p (upf E.T j ⟨(E.T j).id,(E.T j).am,(E.T j).st,(E.T j).dn,sv,(E.T j).U⟩)∧OwnRwP w' Q ra q (fun i=>(unL (E.T j).id (E.T j).U (E.T j).n (rwL E) ((E.T j).n-sv)).getD i zRw)
set_option maxRecDepth 100000 in
set_option maxHeartbeats 8000000 in
theorem rolled_any (E:En) (a:Option Addr) (cap:Nat) (a':Option Addr) (cap':Nat) (j sv:Nat) (w:World) (h0:eF E=0) (hj:j<E.p) (hsv:sv≤(E.T j).n) (h:EngAt w a a' E) :
    Calls Tryz.prog 199 #[.agg #[.int .i64 E.nx,.int .i64 E.ck,.slice a E.p cap,.slice a' E.q cap'],.int .i64 (j:Int),.int .i64 (sv:Int)] w (RtA E j sv w):=by
  have HX:Hid (EngAt w a a' E):=h;have HH0:Hid (eF E=0):=h0;have hq32:=(eF_pq h0).2;have hp20:=(eF_pq h0).1;have HU60:Hid (∀i,i<E.p→(E.T i).n≤60):=undos60 h0;have HR12:Hid (∀i,i<E.q→(E.R i).n≤12):=rows12 h0;have hn60:=undos60 h0 j hj;have hj1:(j:Int)<(E.p:Int):=(by omega);have hj0:(0:Int)≤(j:Int):=(by omega);have hs0:(0:Int)≤(sv:Int):=(by omega);have hs1:(sv:Int)≤((E.T j).n:Int):=(by omega);have hmo:Tryz.prog.follows .mixedOrders=true:=(by kernel_rfl);clear h h0;refine (callsIn_wide (n:=6)).1 ?_;have hF:∀f,Fence.wide.fn f:=fun _=>trivial;refine callsIn_of_wp_marks Tryz.func199 rfl (hF _) ?_ rfl;simp only [Tryz.ntmps199,List.size_toArray,List.length_cons,List.length_nil,Nat.reduceAdd,Nat.reduceSub,Array.replicate_succ,Array.replicate_zero,List.push_toArray,List.append_toArray,List.nil_append,List.cons_append];refine wpIn_wide.2 ?_
  have HBX:Hid (∀o1 o2:Obj,o1=.cells #[.int .i64 E.nx,.int .i64 E.ck,.slice a E.p cap,.slice a' E.q cap'] 30→o2=.cells #[.int .i64 0,.int .i64 0,.slice none 0 0,.slice none 0 0] 30→
      Box4 ((w.alloc o1).alloc o2) w.heap.size (.int .i64 E.nx) (.int .i64 E.ck) (.slice a E.p cap) (.slice a' E.q cap')∧Box4 ((w.alloc o1).alloc o2) (w.heap.size+1) (.int .i64 0) (.int .i64 0) (.slice none 0 0) (.slice none 0 0)∧(∀i,((w.alloc o1).alloc o2).frozen? ⟨w.heap.size+1,i,none⟩=false)∧Below w.heap.size w ((w.alloc o1).alloc o2)∧((w.alloc o1).alloc o2).heap.size=w.heap.size+2):=by
    rintro o1 o2 rfl rfl;exact ⟨(Box4.new w _ _ _ _ _).alloc _,by simp [Box4,go_sem],fun i=>by simp [go_sem],((Below.refl _ _).alloc (Nat.le_refl _) _).alloc (by simp) _,by simp⟩
  go_upto_region 1 with fail;obtain ⟨hb4,hb2,hbf,hbw,hbs⟩:=HBX.out _ _ rfl rfl;generalize ((w.alloc (.cells #[.int .i64 E.nx,.int .i64 E.ck,.slice a E.p cap,.slice a' E.q cap'] 30)).alloc (.cells #[.int .i64 0,.int .i64 0,.slice none 0 0,.slice none 0 0] 30))=w0 at *;have HB0:Hid (Below w.heap.size w w0):=hbw;have HA0:Hid (Box4 w0 (w.heap.size+1) (.int .i64 0) (.int .i64 0) (.slice none 0 0) (.slice none 0 0)∧∀i,w0.frozen? ⟨w.heap.size+1,i,none⟩=false):=⟨hb2,hbf⟩;have HZ0:Hid (w0.heap.size=w.heap.size+2):=hbs;obtain ⟨b0,b1,b2,b3⟩:=hb4;clear hb2 hbf hbw hbs HBX;go_wp2_with fail;refine (copyEngine_any E a cap a' cap' w0 hp20 hq32 HU60.out HR12.out (HX.out.below HB0.out)).mono ?_;rintro e w2 ⟨v,v',b0',M,rfl,hb2,hb0,hM,hgt,hgr⟩;obtain ⟨va,vc,rfl,hvc,hOT⟩:=hgt.own;obtain ⟨vb,vd,rfl,hvd,-⟩:=hgr.own;have hs2:=hb2.size;have hMz:M≤w2.heap.size:=hOT.1;have HA2:Hid (Box4 w2 (w.heap.size+1) (.int .i64 0) (.int .i64 0) (.slice none 0 0) (.slice none 0 0)∧∀i,w2.frozen? ⟨w.heap.size+1,i,none⟩=false):=⟨HA0.out.1.below hb2,fun i=>((bcell2 hb2).2 _ _ HA0.out.1.lt).trans (HA0.out.2 i)⟩;have HB2:Hid (Below w.heap.size w w2):=below_then HB0.out hb2;have HGR:Hid (GrRw M w2.heap.size w2 (.slice vb E.q vd) E.q E.R):=hgr;have HOT:Hid (OwnTx w2 b0' M va E.p E.T):=hOT
  have HBM:Hid (w.heap.size+2≤b0'∧b0'≤M∧M≤w2.heap.size):=by
    have:=HZ0.out;exact ⟨by omega,hM,hMz⟩
  clear hb2 hgt hgr hOT b0 b1 b2 b3 HA0 HB0 HZ0 hb0 hM hMz;go_upto_region 2 with fail;obtain ⟨W3,hW3⟩:∃x,x=w2.alloc (.cells #[.int .i64 E.nx,.int .i64 E.ck,.slice va E.p vc,.slice vb E.q vd] 30):=⟨_,rfl⟩;have hb3:Below w2.heap.size w2 W3:=(by rw [hW3];exact below_new _ _);have hz3:W3.heap.size=w2.heap.size+1:=(by rw [hW3];exact World.size_alloc _ _);have hbo:Box4 W3 w2.heap.size (.int .i64 E.nx) (.int .i64 E.ck) (.slice va E.p vc) (.slice vb E.q vd):=(by rw [hW3];exact Box4.new _ _ _ _ _ _);have hfo:∀i,W3.frozen? ⟨w2.heap.size,i,none⟩=false:=(by rw [hW3];exact fun i=>by simp [go_sem]);rw [←hW3];clear hW3;have HOT3:Hid (OwnTx W3 b0' M va E.p E.T):=HOT.out.below hb3;obtain ⟨-,h9 | ⟨tb,toff,rfl,ht1,ht2,htf,tl,th,htd,htc⟩⟩:=HOT3.out
  · omega
  obtain ⟨-,ht4,ui,uc,hCT,huc,hOU⟩:=htc j hj;obtain ⟨c0,c1,c2,c3,c4⟩:=hCT;have HFT:Hid (∀i,W3.frozen? ⟨tb,i,none⟩=false):=htf
  have HUN:Hid (UndsAt W3 ui (E.T j).n (E.T j).U):=hOU.at
  have HBO:Hid (Box4 W3 w2.heap.size (.int .i64 E.nx) (.int .i64 E.ck) (.slice (some ⟨tb,toff,none⟩) E.p vc) (.slice vb E.q vd)∧∀i,W3.frozen? ⟨w2.heap.size,i,none⟩=false):=⟨hbo,hfo⟩;have HA3:Hid (Box4 W3 (w.heap.size+1) (.int .i64 0) (.int .i64 0) (.slice none 0 0) (.slice none 0 0)∧∀i,W3.frozen? ⟨w.heap.size+1,i,none⟩=false):=⟨HA2.out.1.below hb3,fun i=>((bcell2 hb3).2 _ _ HA2.out.1.lt).trans (HA2.out.2 i)⟩;have HB3:Hid (Below w2.heap.size w2 W3):=hb3;have HW3:Hid (W3.heap.size=w2.heap.size+1):=hz3;have HUC:Hid ((E.T j).n≤uc):=huc;have HTB0:Hid (b0'≤tb∧tb<M):=⟨ht1,ht2⟩
  have HUB:Hid (∀b off,ui=some ⟨b,off,none⟩→(E.T j).n=0∨b<M):=fun b off e=>by
    obtain ⟨o1,o2 | ⟨b2,o3,e2,p1,p2,_⟩⟩:=hOU
    · exact .inl o2
    · rw [e] at e2;injection e2 with e2;injection e2 with e2;subst e2;exact .inr (by omega)
  obtain ⟨b0,b1,b2,b3⟩:=hbo;clear hb3 hfo htd htc hOU htf HOT HA2 hz3 ht1 ht2 ht4 huc;have HUT:Hid (UndsAt W3 (frU ui uc sv) ((E.T j).n-sv) (fun i=>(E.T j).U (sv+i))):=frU_at HUN.out hsv HUC.out;have hsl:=run_fromU ui (E.T j).n uc sv hsv;have hFB:Fence.wide.fn 229:=trivial;go_upto_region 3 with fail;obtain ⟨W4,hW4⟩:∃x,x=W3.alloc (.cells #[.pointer (some ⟨tb,toff+j*5,none⟩)] 124):=⟨_,rfl⟩;have hb4:Below W3.heap.size W3 W4:=(by rw [hW4];exact below_new _ _);have hz4:W4.heap.size=W3.heap.size+1:=(by rw [hW4];exact World.size_alloc _ _);have p0:W4.cell? ⟨W3.heap.size,0,none⟩=some (.pointer (some ⟨tb,toff+j*5,none⟩)):=(by rw [hW4];simp);rw [←hW4];clear hW4;replace c4:=cell_below c4 hb4;go_wp2_with fail;refine (back_any _ _ _ _).mono ?_;rintro e W5 ⟨rfl,hW5⟩;have hb5:Below W4.heap.size W4 W5:=(by rw [hW5];exact below_new _ _);have hz5:W5.heap.size=W4.heap.size+1:=(by rw [hW5];exact World.size_alloc _ _);have s0:W5.cell? ⟨W4.heap.size,0,none⟩=some (.slice (frU ui uc sv) ((E.T j).n-sv) (uc-sv)):=(by rw [hW5];simp);clear hW5;have hb35:Below W3.heap.size W3 W5:=below_then hb4 hb5;have hUT:=HUT.out.below hb35
  obtain ⟨ub,hub1,hub2⟩:∃ub,ub<M+1∧((E.T j).n-sv=0∨∃off,frU ui uc sv=some ⟨ub,off,none⟩∧ub<M∧∀i,i<(E.T j).n-sv→CU W5 ub (off+i*4) ((E.T j).U (sv+i))):=by
    rcases hUT with h9 | ⟨ub,off,e9,hl9,hc9⟩
    · exact ⟨0,by omega,.inl h9⟩
    · by_cases hn9:(E.T j).n-sv=0
      · exact ⟨0,by omega,.inl hn9⟩
      · have hlt:ub<M:=by
          rcases HUN.out with h | ⟨b8,o8,e8,-,-⟩
          · omega
          · have h8:=HUB.out _ _ e8;rw [e8] at e9;unfold frU at e9;split at e9
            · injection e9 with e9;injection e9 with e9;omega
            · rw [Option.map_some,WideShapes.add_plain] at e9;injection e9 with e9;injection e9 with e9;omega
        exact ⟨ub,by omega,.inr ⟨off,e9,hlt,hc9⟩⟩
  have hsz:W5.heap.size=w2.heap.size+3:=(by have:=HW3.out;omega);obtain ⟨xs0,hxs0,hRI⟩:=RpI.start (W:=W5) (tsl:=.slice (some ⟨tb,toff,none⟩) E.p vc) HGR.out HBM.out.2.2 (below_then HB3.out hb35) rfl (HBO.out.1.below hb35) (fun i=>((bcell2 hb35).2 _ _ HBO.out.1.lt).trans (HBO.out.2 i));have q0:=cell_below p0 hb5;have d0:=cell_below c0 hb35;have d1:=cell_below c1 hb35;have d2:=cell_below c2 hb35;have d3:=cell_below c3 hb35;have d4:=cell_below c4 hb5
  have hKP:∀(k k':Nat) (X Y:World) ra rc q xs ra' rc' q' xs',RpI W5 X w2.heap.size E.nx E.ck (.slice (some ⟨tb,toff,none⟩) E.p vc) M ra rc q xs→RpI W5 Y w2.heap.size E.nx E.ck (.slice (some ⟨tb,toff,none⟩) E.p vc) M ra' rc' q' xs'→((E.T j).n-sv≠0)→KpU W4.heap.size ub X Y:=by
    intro k k' X Y ra rc q xs ra' rc' q' xs' h1 h2 hne x hx i v hv
    have hxx:x<W5.heap.size∧(x<M∨w2.heap.size+1≤x):=by
      have:=HW3.out
      rcases hx with rfl | rfl
      · omega
      · rcases hub2 with h | ⟨_,_,h,_⟩
        · exact absurd h hne
        · have:=HBM.out;omega
    have e1:=h1.writes.cell hxx.1 hxx.2 i;have e2:=h2.writes.cell hxx.1 hxx.2 i;rw [e2,←e1];exact hv
  have HKP:Hid (∀(X Y:World) ra rc q xs ra' rc' q' xs',RpI W5 X w2.heap.size E.nx E.ck (.slice (some ⟨tb,toff,none⟩) E.p vc) M ra rc q xs→RpI W5 Y w2.heap.size E.nx E.ck (.slice (some ⟨tb,toff,none⟩) E.p vc) M ra' rc' q' xs'→((E.T j).n-sv≠0)→KpU W4.heap.size ub X Y):=fun X Y=>hKP 0 0 X Y;have HD:Hid (CTx W5 tb (toff+j*5) (E.T j) ui uc∧W5.cell? ⟨W3.heap.size,0,none⟩=some (.pointer (some ⟨tb,toff+j*5,none⟩))):=⟨⟨d0,d1,d2,d3,d4⟩,q0⟩;have HSZ:Hid (W5.heap.size=w2.heap.size+3∧W3.heap.size=w2.heap.size+1):=⟨hsz,HW3.out⟩;have HRI:Hid (RpI W5 W5 w2.heap.size E.nx E.ck (.slice (some ⟨tb,toff,none⟩) E.p vc) M vb vd E.q xs0):=hRI;have HB5:Hid (Below W3.heap.size W3 W5):=hb35;clear hKP hRI hb35 hb4 hb5 hz4 hz5 p0 c0 c1 c2 c3 c4 b0 b1 b2 b3 hsl hUT q0 d0 d1 d2 d3 d4 hsz;go_wp2_with fail;refine (wpIn_wide (n:=6)).1 ?_
  refine wpIn_range_idx rfl (by omega) (gf:=240) (lb:=#[.pointer (some ⟨W4.heap.size,0,none⟩)]) rfl (hF _) (enters_of Tryz.func240 (by kernel_rfl) rfl)
    (back_idx Fence.wide _ (hF _) rfl (by omega) W4.heap.size ub ((E.T j).n-sv) (uc-sv) (frU ui uc sv) (fun i=>(E.T j).U (sv+i)) (by omega) W5 s0 (by rcases hub2 with h | ⟨off,h1,_,h2⟩;exact .inl h;exact .inr ⟨off,h1,h2⟩)) KpU.trans (fun W l o o' _ h hc=>KpU.put W l o o' h hc) (Below.refl _ _) (fun _=>rfl)
    (fun k W=>∃ra rc q xs,xs.map HRw.t=unL (E.T j).id (E.T j).U (E.T j).n (rwL E) k∧RpI W5 W w2.heap.size E.nx E.ck (.slice (some ⟨tb,toff,none⟩) E.p vc) M ra rc q xs)
    (fun k A B row hs hg hr=>by obtain ⟨ra,rc,q,xs,h1,h2⟩:=hs;exact ⟨ra,rc,q,xs,h1,h2.grown hg hr⟩)
    ⟨vb,vd,E.q,xs0,hxs0,HRI.out⟩
    (fun k a9 W=>∃Bx,W5.heap.size≤Bx∧Box4 W Bx (.int .i64 ((E.T j).U (sv+((E.T j).n-sv-1-k))).k) (.bool ((E.T j).U (sv+((E.T j).n-sv-1-k))).h) (.bool ((E.T j).U (sv+((E.T j).n-sv-1-k))).g) (.int .i64 ((E.T j).U (sv+((E.T j).n-sv-1-k))).v)∧a9={ tmps:=#[.agg #[.int .i64 E.nx,.int .i64 E.ck,.slice a E.p cap,.slice a' E.q cap'],.int .i64 (j:Int),.int .i64 (sv:Int),.pointer (some ⟨w.heap.size,0,none⟩),undef,undef,.pointer (some ⟨w.heap.size+1,0,none⟩),.pointer (some ⟨w2.heap.size,0,none⟩),.pointer (some ⟨W3.heap.size,0,none⟩),undef,.pointer (some ⟨Bx,0,none⟩),.agg #[.int .i64 E.nx,.int .i64 E.ck,.slice a E.p cap,.slice a' E.q cap'],.agg #[.int .i64 E.nx,.int .i64 E.ck,.slice (some ⟨tb,toff,none⟩) E.p vc,.slice vb E.q vd],.pointer (some ⟨w2.heap.size,2,none⟩),.slice (some ⟨tb,toff,none⟩) E.p vc,.int .i64 (j:Int),.pointer (some ⟨tb,toff+j*5,none⟩),.pointer (some ⟨tb,toff+j*5,none⟩),.pointer (some ⟨tb,toff+j*5,none⟩),.pointer (some ⟨tb,toff+j*5+4,none⟩),.slice ui (E.T j).n uc,.int .i64 (sv:Int),.slice (frU ui uc sv) ((E.T j).n-sv) (uc-sv),.func (.func 240) #[] #[.pointer (some ⟨W4.heap.size,0,none⟩)],.int .i64 (((E.T j).n-sv-1-k:Nat):Int),.agg #[.int .i64 ((E.T j).U (sv+((E.T j).n-sv-1-k))).k,.bool ((E.T j).U (sv+((E.T j).n-sv-1-k))).h,.bool ((E.T j).U (sv+((E.T j).n-sv-1-k))).g,.int .i64 ((E.T j).U (sv+((E.T j).n-sv-1-k))).v],undef,undef,undef,undef,undef,undef,undef,undef,undef,undef,undef,undef,undef,undef,undef,undef,undef,undef],defers:=[] })
    (fun k a9 _ X Y row hs hg hr=>by obtain ⟨Bx,h1,⟨h2,h3,h4,h5⟩,h6⟩:=hs;exact ⟨Bx,h1,⟨cell_kept h2 hg (fun r e=>(hr r e).2),cell_kept h3 hg (fun r e=>(hr r e).2),cell_kept h4 hg (fun r e=>(hr r e).2),cell_kept h5 hg (fun r e=>(hr r e).2)⟩,h6⟩)
    ?assign ?body ?done
  case assign=>
    rintro l k W K ⟨ra,rc,q,xs,hx,hR⟩ hk hK;have hsw:W5.heap.size≤W.heap.size:=hR.writes.size;have HR:Hid (RpI W5 W w2.heap.size E.nx E.ck (.slice (some ⟨tb,toff,none⟩) E.p vc) M ra rc q xs):=hR;have hne:(E.T j).n-sv≠0:=(by omega);clear hR HX HH0 HU60 HR12 HB2 HGR HA3 HBO HUT HUN HUB HRI HD s0 hub2 hxs0;simp only [encU]
    gi_wp2_with fail
    refine hK _ _ ((KeepsOthers.alloc _ _).from _) (HKP.out _ _ _ _ _ _ _ _ _ _ HR.out (HR.out.below (below_new _ _)) hne) ⟨ra,rc,q,xs,hx,HR.out.below (below_new _ _)⟩ ⟨W.heap.size,hsw,Box4.new _ _ _ _ _ _,?_⟩;rfl
  case body=>
    rintro lp k a9 W hlp ⟨ra,rc,q,xs,hx,hR⟩ ⟨Bx,hBx,⟨x0,x1,x2,x3⟩,rfl⟩ hk;have hsw:W5.heap.size≤W.heap.size:=hR.writes.size;have hne:(E.T j).n-sv≠0:=(by omega);have hfit:=Fit.un (id:=(E.T j).id) (fit_start HH0.out hj) (fun i hi=>(undo_row HH0.out hj hi).2) k (by omega);obtain ⟨m,hm⟩:∃m,m=(E.T j).n-1-k:=⟨_,rfl⟩;have hm1:sv+((E.T j).n-sv-1-k)=m:=(by omega);have hm2:(E.T j).n-k=m+1:=(by omega);rw [hm2,←hx] at hfit;obtain ⟨p,y0,hp,hkey,hpos,hfr⟩:=hfit.find;have hri:=hfit.rising;have hlen:=hR.len;have h12:y0.t.n≤12:=unL_12 (E.T j).id (E.T j).U (E.T j).n (rwL E) (fun r hr=>by obtain ⟨i,hi,rfl⟩:=List.mem_map.1 hr;exact HR12.out i (List.mem_range.1 hi)) k y0.t (by rw [←hx];exact List.mem_map.2 ⟨y0,List.mem_of_getElem? hp,rfl⟩)
    have hq9:q≤32:=by
      have h1:=unL_len (E.T j).id (E.T j).U (E.T j).n (rwL E) k;rw [←hx,List.length_map,hlen] at h1;have h2:(rwL E).length=E.q:=(by simp [rwL]);omega
    have hsd:=fun (y:HRw) (hy:y.t=tkR (E.T j).id ((E.T j).U m) y0.t)=>setH_data (id:=(E.T j).id) (u:=(E.T j).U m) hri (fun x hx=>hfit.pos _ (List.mem_map.2 ⟨x,hx,rfl⟩)) hp hkey hy
    have hrise:∀b,b<q→∀c,c<b→((xs.map HRw.t).getD c zRw).key<((xs.map HRw.t).getD b zRw).key:=fun b hb c hc=>by
      have h1:=List.pairwise_iff_getElem.1 hfit.ri c b (by simp;omega) (by simp;omega) hc;simp only [List.getD_eq_getElem?_getD];rw [List.getElem?_eq_getElem (by simp;omega),List.getElem?_eq_getElem (by simp;omega)];exact h1
    obtain ⟨hspl,hpl⟩:=split_at hp;obtain ⟨l,hl⟩:∃l,l=xs.take p:=⟨_,rfl⟩;obtain ⟨r,hr⟩:∃r,r=xs.drop (p+1):=⟨_,rfl⟩;rw [←hl] at hpl;rw [←hl,←hr] at hspl
    have HSD:Hid (∀y:HRw,y.t=tkR (E.T j).id ((E.T j).U m) y0.t→(l ++ (if y.t.n=0 then [] else [y]) ++ r).map HRw.t=unL (E.T j).id (E.T j).U (E.T j).n (rwL E) (k+1)):=fun y hy=>by
      have h1:=hsd y hy;unfold setH at h1;rw [←hl,←hr,hx] at h1;rw [h1,hm];rfl
    rw [hlen,hpl.symm] at hfr;rw [hspl] at hR hfr hrise;have HR:Hid (RpI W5 W w2.heap.size E.nx E.ck (.slice (some ⟨tb,toff,none⟩) E.p vc) M ra rc q (l ++ y0 :: r)):=hR
    have HTB:Hid (∀l' n' wv,RpI W5 wv w2.heap.size E.nx E.ck (.slice (some ⟨tb,toff,none⟩) E.p vc) M ra rc q (l ++ y0 :: r)→CallsIn (Fence.wide.inRound l') n' Tryz.prog 230 #[.pointer (some ⟨w2.heap.size,0,none⟩),.int .i64 (E.T j).id,.agg #[.int .i64 ((E.T j).U m).k,.bool ((E.T j).U m).h,.bool ((E.T j).U m).g,.int .i64 ((E.T j).U m).v]] wv (TbR W5 w2.heap.size E.nx E.ck (.slice (some ⟨tb,toff,none⟩) E.p vc) M l y0 r (E.T j).id ((E.T j).U m) wv)):=
      fun l' n' wv h=>CallsIn.inRound l' (callsIn_wide.2 (takeBack_any W5 w2.heap.size E.nx E.ck _ M ra rc q l y0 r (E.T j).id ((E.T j).U m) wv h hkey hpos h12 hq9 hrise hfr))
    have hF9:(Fence.wide.inRound lp).fn 230:=trivial;have hs9:=HSZ.out;have hw9:=hR.writes;have q0:W.cell? ⟨W3.heap.size,0,none⟩=some (.pointer (some ⟨tb,toff+j*5,none⟩)):=(hw9.cell (by omega) (.inr (by omega)) 0).trans HD.out.2;have d0:W.cell? ⟨tb,toff+j*5,none⟩=some (.int .i64 (E.T j).id):=(hw9.cell (by have:=HTB0.out;have:=HBM.out;omega) (.inl (HTB0.out.2)) _).trans HD.out.1.1;simp only [hm1] at x0 x1 x2 x3 ⊢;clear hs9 hR hw9 hx hfit hp hfr hri hlen h12 hsd hrise hspl hpl hl hr HX HH0 HU60 HR12 HB2 HGR HA3 HBO HUT HUN HUB HRI HD s0 hub2 hxs0 hm hm1 hm2 hkey hpos
    gi_wp2_with fail
    gi_region_with_o (gi_at_call 230;refine (HTB.out lp _ _ (by first | exact HR.out | exact HR.out.below (drew1 _))).mono ?_;rintro e W9 ⟨rfl,hko,ra9,rc9,q9,y9,hy9,hR9⟩)
    all_goals first
      | exact ⟨((KeepsOthers.drew W).trans hko).from _,HKP.out _ _ _ _ _ _ _ _ _ _ HR.out hR9 hne,ra9,rc9,q9,_,HSD.out y9 hy9,hR9⟩
      | exact ⟨hko.from _,HKP.out _ _ _ _ _ _ _ _ _ _ HR.out hR9 hne,ra9,rc9,q9,_,HSD.out y9 hy9,hR9⟩
  case done=>
    rintro D W hD ⟨ra,rc,q,xs,hx,hR⟩ hK;have hw9:=hR.writes;have hs9:=HSZ.out;have q0:W.cell? ⟨W3.heap.size,0,none⟩=some (.pointer (some ⟨tb,toff+j*5,none⟩)):=(hw9.cell (by omega) (.inr (by omega)) 0).trans HD.out.2;have htx:∀o,W.cell? ⟨tb,o,none⟩=W5.cell? ⟨tb,o,none⟩:=fun o=>hw9.cell (by have:=HTB0.out;have:=HBM.out;omega) (.inl HTB0.out.2) o;have d4:W.cell? ⟨tb,toff+j*5+4,none⟩=some (.slice ui (E.T j).n uc):=(htx _).trans HD.out.1.2.2.2.2
    have HUP:Hid (UndsAt W (frU ui uc 0) sv (E.T j).U):=by
      rcases frU_pre (HUN.out.below HB5.out) hsv HUC.out with h | ⟨b9,o9,e9,h9,hc9⟩
      · exact .inl h
      · by_cases hz:sv=0
        · exact .inl hz
        · have hlt:b9<M:=by
            rcases HUN.out with h | ⟨b8,o8,e8,-,-⟩
            · omega
            · have h8:=HUB.out _ _ e8;rw [e8] at e9;unfold frU at e9;split at e9
              · injection e9 with e9;injection e9 with e9;omega
              · rw [Option.map_some,WideShapes.add_plain] at e9;injection e9 with e9;injection e9 with e9;omega
          exact .inr ⟨b9,o9,e9,by have:=hw9.size;omega,fun i hi=>(hc9 i hi).block (hw9.block b9 h9 (.inl hlt))⟩
    have hsl2:=run_uptoU ui (E.T j).n uc sv (by have:=HUC.out;omega);have HR:Hid (xs.map HRw.t=unL (E.T j).id (E.T j).U (E.T j).n (rwL E) ((E.T j).n-sv)∧RpI W5 W w2.heap.size E.nx E.ck (.slice (some ⟨tb,toff,none⟩) E.p vc) M ra rc q xs):=⟨hx,hR⟩;have HK:Hid (W.heap[D]? = some (.deferred (some []))):=hK;have hj60:sv≤100:=(by omega);have hft:∀i,W.frozen? ⟨tb,i,none⟩=false:=fun i=>(World.frozen?_of_block (w:=W5) (a:=⟨tb,i,none⟩) (hw9.block tb (by have:=HTB0.out;have:=HBM.out;omega) (.inl HTB0.out.2))).trans ((World.frozen?_of_block (w:=W3) (a:=⟨tb,i,none⟩) (HB5.out.block tb (by have:=HTB0.out;have:=HBM.out;omega))).trans (HFT.out i));have ft4:∀u,Below W.heap.size W u→u.frozen? ⟨tb,toff+j*5+4,none⟩=false:=fun u hb=>((bcell2 hb).2 _ _ (Go.block_lt_of_cell d4)).trans (hft _);clear hs9 hR hx hK hw9 htx hft HX HH0 HU60 HR12 HGR HUT HUB HRI s0 hub2 hxs0;go_upto_region 6 with fail;refine wp_region_E 11 (S:=fun u1=>Below W.heap.size W u1) hmo (drew1 _) (fun hS=>?_);refine wpAnyE_takeD (L:=11) (i:=0) (v:=.pointer (some ⟨tb,toff+j*5,none⟩)) (some 32) rfl rfl (by kernel_rfl) (by kernel_rfl) (by kernel_rfl) (by kernel_rfl) (rolledQ (by decide)) (Or.inl ⟨by kernel_rfl,by intro u hSu;have q0:=cell_below q0 hSu;have d4:=cell_below d4 hSu;go_simp⟩) hS ?_
    try simp only [Act.put,List.setIfInBounds_toArray,List.set_cons_zero,List.set_cons_succ]
    refine wpAnyE_takeD (L:=11) (i:=1) (v:=.pointer (some ⟨tb,toff+j*5,none⟩)) (some 33) rfl rfl (by kernel_rfl) (by kernel_rfl) (by kernel_rfl) (by kernel_rfl) (rolledQ (by decide)) (Or.inl ⟨by kernel_rfl,by intro u hSu;have q0:=cell_below q0 hSu;have d4:=cell_below d4 hSu;go_simp⟩) hS ?_
    try simp only [Act.put,List.setIfInBounds_toArray,List.set_cons_zero,List.set_cons_succ]
    refine wpAnyE_takeD (L:=11) (i:=2) (v:=.pointer (some ⟨tb,toff+j*5,none⟩)) (some 34) rfl rfl (by kernel_rfl) (by kernel_rfl) (by kernel_rfl) (by kernel_rfl) (rolledQ (by decide)) (Or.inl ⟨by kernel_rfl,by intro u hSu;have q0:=cell_below q0 hSu;have d4:=cell_below d4 hSu;go_simp⟩) hS ?_
    try simp only [Act.put,List.setIfInBounds_toArray,List.set_cons_zero,List.set_cons_succ]
    refine wpAnyE_takeD (L:=11) (i:=3) (v:=.pointer (some ⟨tb,toff+j*5+4,none⟩)) (some 35) rfl rfl (by kernel_rfl) (by kernel_rfl) (by kernel_rfl) (by kernel_rfl) (rolledQ (by decide)) (Or.inl ⟨by kernel_rfl,by intro u hSu;have q0:=cell_below q0 hSu;have d4:=cell_below d4 hSu;go_simp⟩) hS ?_
    try simp only [Act.put,List.setIfInBounds_toArray,List.set_cons_zero,List.set_cons_succ]
    refine wpAnyE_takeD (L:=11) (i:=4) (v:=.slice ui (E.T j).n uc) (some 36) rfl rfl (by kernel_rfl) (by kernel_rfl) (by kernel_rfl) (by kernel_rfl) (rolledQ (by decide)) (Or.inl ⟨by kernel_rfl,by intro u hSu;have q0:=cell_below q0 hSu;have d4:=cell_below d4 hSu;go_simp⟩) hS ?_
    try simp only [Act.put,List.setIfInBounds_toArray,List.set_cons_zero,List.set_cons_succ]
    refine wpAnyE_takeD (L:=11) (i:=5) (v:=.int .i64 (sv:Int)) (some 37) rfl rfl (by kernel_rfl) (by kernel_rfl) (by kernel_rfl) (by kernel_rfl) (rolledQ (by decide)) (Or.inl ⟨by kernel_rfl,by intro u hSu;have q0:=cell_below q0 hSu;have d4:=cell_below d4 hSu;go_simp⟩) hS ?_
    try simp only [Act.put,List.setIfInBounds_toArray,List.set_cons_zero,List.set_cons_succ]
    refine wpAnyE_takeD (L:=11) (i:=6) (v:=.slice (frU ui uc 0) sv uc) (some 38) rfl rfl (by kernel_rfl) (by kernel_rfl) (by kernel_rfl) (by kernel_rfl) (rolledQ (by decide)) (Or.inl ⟨by kernel_rfl,by intro u hSu;have q0:=cell_below q0 hSu;have d4:=cell_below d4 hSu;go_simp⟩) hS ?_
    try simp only [Act.put,List.setIfInBounds_toArray,List.set_cons_zero,List.set_cons_succ]
    refine wpAnyE_ready (rs:=[7]) (by kernel_rfl) (by simp) ?_;refine AllReadyE.cons rfl (fun K9 hK=>?_) AllReadyE.nil;go_simp;refine hK.out _ _ (below_then hS (below_new _ _)) (fun hS9=>?_)
    try simp only [Act.put,List.setIfInBounds_toArray,List.set_cons_zero,List.set_cons_succ]
    clear hK K9 hS;have hS:=hS9;clear hS9;refine wpAnyE_ready (rs:=[8]) (by kernel_rfl) (by simp) ?_;refine AllReadyE.cons rfl (fun K9 hK=>?_) AllReadyE.nil;go_simp;refine (joined1U_any sv (E.T j).U (frU ui uc 0) uc W.heap.size _ hj60 (by simp) (HUP.out.below hS)).mono ?_;rintro e w4 ⟨a3,c3,rfl,hb4,ho4,hc3⟩;have hB4:Below W.heap.size W w4:=below_then hS hb4;have HB4:Hid (Below W.heap.size W w4):=hB4;have HO4:Hid (OwnU w4 W.heap.size w4.heap.size a3 sv (E.T j).U∧sv≤c3):=⟨ho4.toU.wide (by simp) (Nat.le_refl _) (Nat.le_refl _),hc3⟩;have f4:w4.frozen? ⟨tb,toff+j*5+4,none⟩=false:=ft4 w4 hB4;have d4:=cell_below d4 hB4;clear ho4 hB4;refine hK.out _ _ (below_then hS hb4) (fun hS9=>?_)
    try simp only [Act.put,List.setIfInBounds_toArray,List.set_cons_zero,List.set_cons_succ]
    clear hK K9 hS;have hS:=hS9;clear hS9;clear hb4;refine wpAnyE_ready (rs:=[9]) (by kernel_rfl) (by simp) ?_;refine AllReadyE.cons rfl (fun K9 hK=>?_) AllReadyE.nil;go_simp;refine hK.out _ _ (hS) (fun hS9=>?_)
    try simp only [Act.put,List.setIfInBounds_toArray,List.set_cons_zero,List.set_cons_succ]
    clear hK K9 hS;have hS:=hS9;clear hS9;refine wpAnyE_takeD (L:=11) (i:=10) (v:=.pointer (some ⟨tb,toff+j*5+4,none⟩)) (some 42) rfl rfl (by kernel_rfl) (by kernel_rfl) (by kernel_rfl) (by kernel_rfl) (rolledQ (by decide)) (Or.inl ⟨by kernel_rfl,by intro u hSu;go_simp⟩) hS ?_
    try simp only [Act.put,List.setIfInBounds_toArray,List.set_cons_zero,List.set_cons_succ]
    refine wpAnyE_ready (rs:=[11]) (by kernel_rfl) (by simp) ?_;refine AllReadyE.last rfl (fun K9 hK=>?_);go_simp;refine hK.out _ _ ?_
    try simp only [Act.put,List.setIfInBounds_toArray,List.set_cons_zero,List.set_cons_succ]
    clear hK K9 hS;refine wpAnyE_done (by kernel_rfl) ?_ _;go_simp;go_upto_region 7 with fail;obtain ⟨W6,hW6⟩:∃x,x=w4.setCell ⟨tb,toff+j*5+4,none⟩ (.slice a3 sv c3):=⟨_,rfl⟩;rw [←hW6];have hw46:Writes tb (tb+1) w4 W6:=(by rw [hW6];exact Writes.setCell (Writes.refl _ _ _) (p:=⟨tb,_,none⟩) (Nat.le_refl _) (Nat.lt_succ_self _) _);have hz6:W6.heap.size=w4.heap.size:=(by rw [hW6];simp [World.setCell]);have hko6:KeepsOthers w4 W6:=(by rw [hW6];exact KeepsOthers.setCell _ _ _);have hc6:W6.cell? ⟨tb,toff+j*5+4,none⟩=some (.slice a3 sv c3):=(by rw [hW6];exact World.cell?_setCell_same _ _ _ d4)
    have hfar6:∀o,o≠toff+j*5+4→W6.cell? ⟨tb,o,none⟩=w4.cell? ⟨tb,o,none⟩:=fun o ho=>by rw [hW6];exact setO (Ne.symm ho)
    have hfr6:∀i,W6.frozen? ⟨tb,i,none⟩=w4.frozen? ⟨tb,i,none⟩:=fun i=>by rw [hW6];exact World.frozen?_setCell _ _ _ _
    have htb:=HTB0.out;have hbm:=HBM.out;have hsz9:=HSZ.out;have hwr:=HR.out.2.writes;have hWs:=hwr.size;have hs4:=HB4.out.size;have hB4b:=HR.out.2.box.below HB4.out;obtain ⟨b0,b1,b2,b3⟩:=hB4b.writes hw46 (.inr (by omega));have hA4:∀x,x<W3.heap.size→x<M→W.heap[x]? = W3.heap[x]?:=fun x hx hm=>(hwr.block x (by omega) (.inl hm)).trans (HB5.out.block x hx);have hA6:∀x,x<W3.heap.size→x<M→x≠tb→W6.heap[x]? = W3.heap[x]?:=fun x hx hm hne=>((hw46.block x (by omega) (by omega)).trans (HB4.out.block x (by omega))).trans (hA4 x hx hm);have eA:=hA6 (w.heap.size+1) (by omega) (by omega) (by omega);have gA:∀o,W6.cell? ⟨w.heap.size+1,o,none⟩=W3.cell? ⟨w.heap.size+1,o,none⟩:=fun o=>World.cell?_of_block (w:=W3) (a:=⟨w.heap.size+1,o,none⟩) eA;obtain ⟨z0,z1,z2,z3⟩:=HA3.out.1;replace z0:=(gA 0).trans z0;replace z1:=(gA 1).trans z1;replace z2:=(gA 2).trans z2;replace z3:=(gA 3).trans z3;have f0:∀i,W6.frozen? ⟨w.heap.size+1,i,none⟩=false:=fun i=>(World.frozen?_of_block (w:=W3) (a:=⟨w.heap.size+1,i,none⟩) eA).trans (HA3.out.2 i);have HK6:Hid (W6.heap[D]? = some (.deferred (some []))):=hko6.same D _ ((ko_below HB4.out).same D _ HK.out rfl) rfl
    have hRP:OwnRwP W6 (fun x=>(M≤x∧x<w2.heap.size)∨(W5.heap.size≤x∧x<W.heap.size)) ra q (fun i=>(xs.map HRw.t).getD i zRw):=
      HR.out.2.rowsP.keep (by omega) fun x hx hl=>(hw46.block x (by omega) (by omega)).trans (HB4.out.block x hl)
    rw [HR.out.1] at hRP;have hqq:q=(unL (E.T j).id (E.T j).U (E.T j).n (rwL E) ((E.T j).n-sv)).length:=(by rw [←HR.out.1,List.length_map,HR.out.2.len]);have hcx:∀o,o≠toff+j*5+4→W6.cell? ⟨tb,o,none⟩=W3.cell? ⟨tb,o,none⟩:=fun o ho=>(hfar6 o ho).trans ((World.cell?_of_block (w:=W) (a:=⟨tb,o,none⟩) (HB4.out.block tb (by omega))).trans (World.cell?_of_block (w:=W3) (a:=⟨tb,o,none⟩) (hA4 tb (by omega) htb.2)))
    have hCT6:CTx W6 tb (toff+j*5) ⟨(E.T j).id,(E.T j).am,(E.T j).st,(E.T j).dn,sv,(E.T j).U⟩ a3 c3:=by
      have hg:∀o,W5.cell? ⟨tb,o,none⟩=W3.cell? ⟨tb,o,none⟩:=fun o=>World.cell?_of_block (w:=W3) (a:=⟨tb,o,none⟩) (HB5.out.block tb (by omega));obtain ⟨g0,g1,g2,g3,g4⟩:=HD.out.1;exact ⟨(hcx _ (by omega)).trans ((hg _).symm.trans g0),(hcx _ (by omega)).trans ((hg _).symm.trans g1),(hcx _ (by omega)).trans ((hg _).symm.trans g2),(hcx _ (by omega)).trans ((hg _).symm.trans g3),hc6⟩
    have hUN6:OwnU W6 W.heap.size W6.heap.size a3 sv (E.T j).U:=(HO4.out.1.writes hw46 (.inr (by omega))).wide (Nat.le_refl _) (by omega) (Nat.le_refl _)
    have hTP:OwnTxP W6 (fun x=>(b0'≤x∧x<M)∨(W.heap.size≤x∧x<W6.heap.size)) (some ⟨tb,toff,none⟩) E.p (upf E.T j ⟨(E.T j).id,(E.T j).am,(E.T j).st,(E.T j).dn,sv,(E.T j).U⟩):=
      HOT3.out.putP (t:=⟨(E.T j).id,(E.T j).am,(E.T j).st,(E.T j).dn,sv,(E.T j).U⟩) hj (fun x x1 x2 x3=>hA6 x (by omega) x2 x3) (by omega) (fun o' ho=>hcx o' (by omega)) (fun i=>(hfr6 i).trans (((World.frozen?_of_block (w:=W) (a:=⟨tb,i,none⟩) (HB4.out.block tb (by omega)))).trans (World.frozen?_of_block (w:=W3) (a:=⟨tb,i,none⟩) (hA4 tb (by omega) htb.2)))) hCT6 HO4.out.2 (by omega) hUN6
    have HRP:Hid (OwnRwP W6 (fun x=>(M≤x∧x<w2.heap.size)∨(W5.heap.size≤x∧x<W.heap.size)) ra q (fun i=>(unL (E.T j).id (E.T j).U (E.T j).n (rwL E) ((E.T j).n-sv)).getD i zRw)∧q=(unL (E.T j).id (E.T j).U (E.T j).n (rwL E) ((E.T j).n-sv)).length):=⟨hRP,hqq⟩;have HTP:Hid (OwnTxP W6 (fun x=>(b0'≤x∧x<M)∨(W.heap.size≤x∧x<W6.heap.size)) (some ⟨tb,toff,none⟩) E.p (upf E.T j ⟨(E.T j).id,(E.T j).am,(E.T j).st,(E.T j).dn,sv,(E.T j).U⟩)):=hTP
    have HBW6:Hid (Below w.heap.size w W6):=by
      have h1:Below w.heap.size w W3:=below_then HB2.out HB3.out;have h2:Below w.heap.size w W5:=below_then h1 HB5.out;have h3:Below w.heap.size w W:=Writes.below h2 hwr (by omega);have h4:Below w.heap.size w w4:=below_then h3 HB4.out;exact Writes.below h4 hw46 (by omega)
    have HNM:Hid (w.heap.size+2≤b0'∧b0'≤M∧M≤w2.heap.size∧w2.heap.size≤W5.heap.size∧W5.heap.size≤W.heap.size∧W.heap.size≤W6.heap.size∧W5.heap.size≤D):=by
      refine ⟨by omega,by omega,by omega,by omega,by omega,by omega,hD⟩
    clear hRP hqq hTP hUN6 hCT6 hcx hB4b hwr hsz9 hw46 hz6 hko6 hc6 hfar6 hfr6 htb hbm hWs hs4 hA4 hA6 eA gA hW6 d4 HR HB4 HO4 HD HUP HA3 HOT3 HB2 HB3 HB5 HSZ HTB0 HBM;go_wp2_with fail
    have hK7:(((((W6.setCell ⟨w.heap.size+1,0,none⟩ (.int .i64 E.nx)).setCell ⟨w.heap.size+1,1,none⟩ (.int .i64 E.ck)).setCell ⟨w.heap.size+1,2,none⟩ (.slice (some ⟨tb,toff,none⟩) E.p vc)).setCell ⟨w.heap.size+1,3,none⟩ (.slice ra q rc))).heap[D]? = some (.deferred (some [])):=
      ((((KeepsOthers.setCell _ _ _).trans (KeepsOthers.setCell _ _ _)).trans (KeepsOthers.setCell _ _ _)).trans (KeepsOthers.setCell _ _ _)).same D _ HK6.out rfl
    obtain ⟨hx4,hw7,hz7⟩:=box4_put W6 (w.heap.size+1) (.int .i64 E.nx) (.int .i64 E.ck) (.slice (some ⟨tb,toff,none⟩) E.p vc) (.slice ra q rc) ⟨z0,z1,z2,z3⟩;refine ⟨by simp,.inl ⟨_,_,rfl,run_takeDeferred hK7,?_⟩⟩;generalize (((W6.setCell ⟨w.heap.size+1,0,none⟩ (.int .i64 E.nx)).setCell ⟨w.heap.size+1,1,none⟩ (.int .i64 E.ck)).setCell ⟨w.heap.size+1,2,none⟩ (.slice (some ⟨tb,toff,none⟩) E.p vc)).setCell ⟨w.heap.size+1,3,none⟩ (.slice ra q rc)=W7 at *;have hg7:=grownBy_putObj' W7 D (.deferred none)
    have hr7:∀r,some D=some r→∃o:Obj,W7.heap[r]? = some o∧o.isCells=false:=fun r e=>by cases e;exact ⟨_,hK7,rfl⟩
    obtain ⟨y0,y1,y2,y3⟩:=hx4;replace y0:=cell_kept y0 hg7 hr7;replace y1:=cell_kept y1 hg7 hr7;replace y2:=cell_kept y2 hg7 hr7;replace y3:=cell_kept y3 hg7 hr7;have hnm:=HNM.out;have hz8:(W7.putObj D (.deferred none)).heap.size=W7.heap.size:=(by simp);have hbw7:Below w.heap.size w (W7.putObj D (.deferred none)):=(Writes.below HBW6.out hw7 (by omega)).trans (belowK_b (w:=w) (Nat.le_refl _) W7 D _ _ (by omega) hK7 rfl rfl);have hT7:=(OwnTxP.keep HTP.out hw7.size (fun x hx hl=>hw7.block x hl (by omega))).kept hg7 hr7;have hR7:=(OwnRwP.keep HRP.out.1 hw7.size (fun x hx hl=>hw7.block x hl (by omega))).kept hg7 hr7;refine ⟨.agg #[.int .i64 E.nx,.int .i64 E.ck,.slice (some ⟨tb,toff,none⟩) E.p vc,.slice ra q rc],by simp [results,Tryz.results199,go_sem,y0,y1,y2,y3],_,vc,ra,rc,q,rfl,hbw7,HRP.out.2,_,_,fun x hx=>?_,fun x hx=>?_,fun x hx hy=>?_,hT7,hR7⟩
    · omega
    · omega
    · omega
theorem OwnTxP.setSt {w:World} {P:Nat→Prop} {b off n j:Nat} {T:Nat→Tx} (h:OwnTxP w P (some ⟨b,off,none⟩) n T) (hj:j<n) (s:Int) :
    OwnTxP (w.setCell ⟨b,off+j*5+2,none⟩ (.int .i64 s)) P (some ⟨b,off,none⟩) n (upf T j ⟨(T j).id,(T j).am,s,(T j).dn,(T j).n,(T j).U⟩)∧P b∧b<w.heap.size∧w.frozen? ⟨b,off+j*5+2,none⟩=false∧w.cell? ⟨b,off+j*5+2,none⟩=some (.int .i64 (T j).st):=by
  obtain h9 | ⟨b1,off1,ha,hp,hl,hf,l,h,hd,hc⟩:=h
  · omega
  simp only [Option.some.injEq,Addr.mk.injEq,and_true] at ha;obtain ⟨rfl,rfl⟩:=ha;have hw:Writes b (b+1) w (w.setCell ⟨b,off+j*5+2,none⟩ (.int .i64 s)):=Writes.setCell (Writes.refl _ _ _) (p:=⟨b,_,none⟩) (Nat.le_refl _) (Nat.lt_succ_self _) _;have hz:(w.setCell ⟨b,off+j*5+2,none⟩ (.int .i64 s)).heap.size=w.heap.size:=(by simp [World.setCell]);obtain ⟨_,_,ai,ci,⟨x0,x1,x2,x3,x4⟩,_,_⟩:=hc j hj;refine ⟨.inr ⟨b,off,rfl,hp,by omega,fun i=>by rw [World.frozen?_setCell];exact hf i,l,h,hd,fun i hi=>?_⟩,hp,hl,hf _,x2⟩;obtain ⟨k0,k1,ai,ci,⟨g0,g1,g2,g3,g4⟩,k3,k4⟩:=hc i hi;have hU:OwnU (w.setCell ⟨b,off+j*5+2,none⟩ (.int .i64 s)) (l i) (h i) ai (T i).n (T i).U:=k4.writes hw (by omega)
  by_cases e:i=j
  · subst e;rw [upf_eq];exact ⟨k0,k1,ai,ci,⟨(setO (by omega)).trans g0,(setO (by omega)).trans g1,setS g2,(setO (by omega)).trans g3,(setO (by omega)).trans g4⟩,k3,hU⟩
  · rw [upf_ne _ _ e];exact ⟨k0,k1,ai,ci,⟨(setO (by omega)).trans g0,(setO (by omega)).trans g1,(setO (by omega)).trans g2,(setO (by omega)).trans g3,(setO (by omega)).trans g4⟩,k3,hU⟩
set_option maxHeartbeats 16000000 in
theorem implAb_any (E:En) (a:Option Addr) (cap:Nat) (a':Option Addr) (cap':Nat) (id:Int) (w:World) (hs:SmallE E) (h:EngAt w a a' E) :
    Calls Tryz.prog 155 #[.agg #[.int .i64 E.nx,.int .i64 E.ck,.slice a E.p cap,.slice a' E.q cap'],.int .i64 id] w (ERes2 (askC E id) 0 (abE E id) w):=by
  have HXA:Hid (EngAt w a a' E):=h;have HS:Hid (SmallE E):=hs;clear h hs
  have HBX:Hid (∀o1 o2:Obj,o1=.cells #[.int .i64 E.nx,.int .i64 E.ck,.slice a E.p cap,.slice a' E.q cap'] 30→o2=.cells #[.int .i64 0,.int .i64 0,.int .i64 0,.int .i64 0,.slice none 0 0,.slice none 0 0] 32→
      Box4 ((w.alloc o1).alloc o2) w.heap.size (.int .i64 E.nx) (.int .i64 E.ck) (.slice a E.p cap) (.slice a' E.q cap')∧Box6 ((w.alloc o1).alloc o2) (w.heap.size+1) (.int .i64 0) (.int .i64 0) (.int .i64 0) (.int .i64 0) (.slice none 0 0) (.slice none 0 0)∧(∀i,((w.alloc o1).alloc o2).frozen? ⟨w.heap.size+1,i,none⟩=false)∧Below w.heap.size w ((w.alloc o1).alloc o2)∧((w.alloc o1).alloc o2).heap.size=w.heap.size+2):=by
    rintro o1 o2 rfl rfl;exact ⟨(Box4.new w _ _ _ _ _).alloc _,by simp [Box6,go_sem],fun i=>by simp [go_sem],((Below.refl _ _).alloc (Nat.le_refl _) _).alloc (by simp) _,by simp⟩
  go_enter Tryz.func155,Tryz.ntmps155;go_wp2_with fail;obtain ⟨hb4,hb2,hbf,hbw,hbs⟩:=HBX.out _ _ rfl rfl;refine (placeOfOpen_any E a cap a' cap' id _ HS.out (HXA.out.below hbw)).mono ?_;rintro e W ⟨rfl,hb1⟩;have HB4:Hid (Box4 W w.heap.size (.int .i64 E.nx) (.int .i64 E.ck) (.slice a E.p cap) (.slice a' E.q cap')):=hb4.below hb1;have HR6:Hid (Box6 W (w.heap.size+1) (.int .i64 0) (.int .i64 0) (.int .i64 0) (.int .i64 0) (.slice none 0 0) (.slice none 0 0)):=hb2.below hb1;have HRF:Hid (∀i,W.frozen? ⟨w.heap.size+1,i,none⟩=false):=fun i=>((bcell2 hb1).2 _ _ (by rw [hbs];omega)).trans (hbf i);have HBW:Hid (Below w.heap.size w W):=below_then hbw hb1;have HS1:Hid (w.heap.size+2≤W.heap.size):=(by have:=hb1.size;rw [hbs] at this;exact this);clear hb1 hb4 hb2 hbf hbw hbs HBX
  by_cases hc:askC E id=0
  case neg=>
    have HF:Hid (∀w7,Below w.heap.size w w7→ERes2 (askC E id) 0 (abE E id) w (.returned (.agg #[.int .i64 (askC E id),.int .i64 0,.int .i64 0,.int .i64 0,.slice none 0 0,.slice none 0 0])) w7):=fun w7 hb=>by
      rw [show abE E id=zEn from if_neg hc];exact eres_bad2 hb
    have hc2:(askC E id != 0)=true:=(by simp [hc]);obtain ⟨r0,r1,r2,r3,r4,r5⟩:=HR6.out;have rf:=HRF.out;clear hc;generalize askC E id=uu at *;generalize askP E id=up at *;go_wp2_with fail;refine bodyPost_ret (v:=.agg #[.int .i64 uu,.int .i64 0,.int .i64 0,.int .i64 0,.slice none 0 0,.slice none 0 0]) (by simp [results,Tryz.results155,go_sem, *]) rfl ?_;refine HF.out _ ?_
    repeat (first | with_reducible exact HBW.out | with_reducible refine Below.setCell ?_ (by first | omega | (simp <;> omega)) _)
  obtain ⟨h0,j,hj,hp,hid⟩:=ask_open hc;have HEX:Hid (EngAt W a a' E):=HXA.out.below HBW.out;have HH0:Hid (eF E=0):=h0;have HHC:Hid (askC E id=0):=hc;have HHP:Hid (askP E id=(j:Int)):=hp;have hj1:(j:Int)<(E.p:Int):=(by omega);have hj0:(0:Int)≤(j:Int):=(by omega);obtain ⟨b0,b1,b2,b3⟩:=HB4.out;rw [hc,hp];clear hc hp h0 hid
  have HEQ:Hid (askC E id=0∧abE E id=rlE E j 0 3):=by
    refine ⟨HHC.out,?_⟩;unfold abE;rw [if_pos HHC.out,HHP.out,Int.toNat_natCast]
  go_wp2_with fail;refine (rolled_any E _ cap a' cap' j 0 W HH0.out hj (Nat.zero_le _) HEX.out).mono ?_;rintro e w6 ⟨va,vc,ra,rc,q,rfl,hb6,hq,P,Q,hP,hQ,hPQ,hT,hR⟩;have HQ9:Hid (q=(unL (E.T j).id (E.T j).U (E.T j).n (rwL E) ((E.T j).n-0)).length):=hq;clear hq;go_upto_region 5 with fail;obtain ⟨W7,hW7⟩:∃x,x=w6.alloc (.cells #[.int .i64 E.nx,.int .i64 E.ck,.slice va E.p vc,.slice ra q rc] 30):=⟨_,rfl⟩;have hb7:Below w6.heap.size w6 W7:=(by rw [hW7];exact below_new _ _);have hz7:W7.heap.size=w6.heap.size+1:=(by rw [hW7];exact World.size_alloc _ _);obtain ⟨y0,y1,y2,y3⟩:Box4 W7 w6.heap.size (.int .i64 E.nx) (.int .i64 E.ck) (.slice va E.p vc) (.slice ra q rc):=(by rw [hW7];exact Box4.new _ _ _ _ _ _);rw [←hW7];clear hW7;have hT7:OwnTxP W7 P va E.p (upf E.T j ⟨(E.T j).id,(E.T j).am,(E.T j).st,(E.T j).dn,0,(E.T j).U⟩):=OwnTxP.keep hT hb7.size fun x hx hl=>hb7.block x hl;have hR7:OwnRwP W7 Q ra q (fun i=>(unL (E.T j).id (E.T j).U (E.T j).n (rwL E) ((E.T j).n-0)).getD i zRw):=OwnRwP.keep hR hb7.size fun x hx hl=>hb7.block x hl;have hT7b:=hT7
  rcases hT7 with h9 | ⟨tb,toff,hva,-,-,-,-⟩
  · omega
  subst hva;obtain ⟨hT8,hPb,hbl,hfz,hst⟩:=OwnTxP.setSt hT7b hj 3;have hw8:Writes tb (tb+1) W7 (W7.setCell ⟨tb,toff+j*5+2,none⟩ (.int .i64 3)):=Writes.setCell (Writes.refl _ _ _) (p:=⟨tb,_,none⟩) (Nat.le_refl _) (Nat.lt_succ_self _) _;have hz8:(W7.setCell ⟨tb,toff+j*5+2,none⟩ (.int .i64 3)).heap.size=W7.heap.size:=(by simp [World.setCell]);have hR8:=OwnRwP.keep hR7 hw8.size (fun x hx hl=>hw8.block x hl (by have:x≠tb:=fun e=>hPQ tb hPb (e ▸ hx);omega));rw [upf_upf9,upf_eq] at hT8;have htb:=hP tb hPb;have hs1:=HS1.out
  have HF:Hid (∀w7,Writes (w.heap.size+1) (w.heap.size+2) (W7.setCell ⟨tb,toff+j*5+2,none⟩ (.int .i64 3)) w7→w7.heap.size=W7.heap.size→ERes2 (askC E id) 0 (abE E id) w (.returned (.agg #[.int .i64 0,.int .i64 0,.int .i64 E.nx,.int .i64 E.ck,.slice (some ⟨tb,toff,none⟩) E.p vc,.slice ra q rc])) w7):=fun w7 hw hz=>by
    rw [HEQ.out.1,HEQ.out.2];have hq:=HQ9.out;subst hq;refine ⟨_,vc,ra,rc,rfl,Writes.below (Writes.below (below_then (below_then HBW.out hb6) hb7) hw8 (by omega)) hw (by omega),Nat.le_refl _,P,Q,fun x hx=>by have:=hP x hx;omega,fun x hx=>by have:=hQ x hx;omega,hPQ,?_,?_⟩
    · exact OwnTxP.keep hT8 hw.size fun x hx hl=>hw.block x hl (by have:=hP x hx;omega)
    · exact OwnRwP.keep hR8 hw.size fun x hx hl=>hw.block x hl (by have:=hQ x hx;omega)
  have hbb:Below W.heap.size W W7:=below_then hb6 hb7;obtain ⟨r0,r1,r2,r3,r4,r5⟩:=HR6.out.below hbb;have rf:∀i,W7.frozen? ⟨w.heap.size+1,i,none⟩=false:=fun i=>((bcell2 hbb).2 _ _ (by omega)).trans (HRF.out i);have hne1:w.heap.size+1≠tb:=(by omega);have hne2:w6.heap.size≠tb:=(by omega);clear hb6 hP hQ hPQ hT hR b0 b1 b2 b3 hbb hb7 hT7b hR7 hT8 hR8 hw8 hz8 hbl hz7 htb hs1;go_wp2_with fail;refine bodyPost_ret (v:=.agg #[.int .i64 0,.int .i64 0,.int .i64 E.nx,.int .i64 E.ck,.slice (some ⟨tb,toff,none⟩) E.p vc,.slice ra q rc]) (by simp [results,Tryz.results155,go_sem, *]) rfl ?_;refine HF.out _ ?_ (by simp [World.setCell])
  repeat (first | with_reducible exact Writes.refl _ _ _ | with_reducible refine Writes.setCell ?_ (by first | omega | (simp <;> omega)) (by first | omega | (simp <;> omega)) _)
end Go.Proofs.YtjdodbiphijjgaaGreat
