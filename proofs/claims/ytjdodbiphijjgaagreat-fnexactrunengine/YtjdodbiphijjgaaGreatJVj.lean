import Derived.Test.YtjdodbiphijjgaaGreatJScc
import Derived.Test.YtjdodbiphijjgaaGreatJVn
import Derived.Test.YtjdodbiphijjgaaGreatJVc
import Derived.Deep.AppendLies
import Derived.Laws.AppendOwn
import Derived.OwnWalk
namespace Go.Proofs.YtjdodbiphijjgaaGreat
open Go.RowKit Go.Deep
set_option linter.unusedVariables false
set_option maxRecDepth 20000
open Go.ChangeShapes Go.WideShapes Go.ChangeAt Go.RowKit Go.Deep Go.Joins
theorem own4_none {w:World} {lo:Nat} {a:Option Addr} {S:Nat→Vr}:Own4 w lo w.heap.size a 0 S:=⟨Nat.le_refl _,.inl rfl⟩
theorem VersAt.rest {w:World} {b off n:Nat} {R:Nat→Vr} (h:VersAt w (some ⟨b,off,none⟩) n R):VersAt w (some ⟨b,off+4,none⟩) (n-1) (fun i=>R (i+1)):=by
  rcases h with h | ⟨b',off',e,hl,hc⟩
  · exact .inl (by omega)
  · simp only [Option.some.injEq,Addr.mk.injEq] at e;obtain ⟨rfl,rfl,-⟩:=e;refine .inr ⟨b,off+4,rfl,hl,fun i hi=>?_⟩;have:=hc (i+1) (by omega);rw [show off+(i+1)*4=off+4+i*4 by omega] at this;exact this
def coS (R:Nat→Vr) (y:Int) (i:Nat):Vr:=if i=0 then ⟨(R 0).t,y,(R 0).g,(R 0).v⟩ else R i
theorem row4_at {w:World} {b off n:Nat} {R:Nat→Vr} {y:Int} (hp:0<n) (h:Row4 w b off n R):Row4 (w.setCell ⟨b,off+1,none⟩ (.int .i64 y)) b off n (coS R y):=by
  refine ⟨fun i hi=>?_,fun i=>by rw [World.frozen?_setCell];exact h.2 i⟩;obtain ⟨h0,h1,h2,h3⟩:=h.1 i hi
  by_cases e:i=0
  · subst e;rw [show coS R y 0=⟨(R 0).t,y,(R 0).g,(R 0).v⟩ from rfl];rw [Nat.zero_mul,Nat.add_zero] at *;exact ⟨by rw [setO (by omega)];exact h0,setS h1,by rw [setO (by omega)];exact h2,by rw [setO (by omega)];exact h3⟩
  · rw [show coS R y i=R i from if_neg e];exact ⟨by rw [setO (by omega)];exact h0,by rw [setO (by omega)];exact h1,by rw [setO (by omega)];exact h2,by rw [setO (by omega)];exact h3⟩
theorem own4_some {w:World} {lo hi n:Nat} {a:Option Addr} {R:Nat→Vr} (h:Own4 w lo hi a n R) (hp:0<n):∃b off,a=some ⟨b,off,none⟩∧lo≤b∧b<hi∧hi≤w.heap.size∧Row4 w b off n R:=by
  obtain ⟨h0,h1 | ⟨b,off,ha,h2,h3,h4⟩⟩:=h
  · omega
  · exact ⟨b,off,ha,h2,h3,h0,h4⟩
theorem OwnRw.chain {w:World} {lo hi:Nat} {a:Option Addr} {n:Nat} {T:Nat→Rw} (h:OwnRw w lo hi a n T) {j:Nat} (hj:j<n) :
    ∃b off ai ci l h,a=some ⟨b,off,none⟩∧lo≤b∧b<hi∧CRw w b (off+j*2) (T j) ai ci∧(T j).n≤ci∧(h=0∨lo≤l∧h≤hi)∧Own4 w l h ai (T j).n (T j).U∧
      ∀U w1,Writes l h w w1→Own4 w1 l h ai (T j).n U→OwnRw w1 lo hi a n (upf T j ⟨(T j).key,(T j).n,U⟩):=by
  obtain ⟨h0,h1 | ⟨b,off,ha,hlo,hl,hf,l,h,hd,hc⟩⟩:=h
  · omega
  obtain ⟨k0,k1,ai,ci,k2,k3,k4⟩:=hc j hj;refine ⟨b,off,ai,ci,l j,h j,ha,hlo,hl,k2,k3,k1,k4,fun U w1 hw hr=>?_⟩;have hsz:w.heap.size≤w1.heap.size:=hw.size;have eb:w1.heap[b]? = w.heap[b]?:=hw.block b (by omega) (by omega);refine ⟨Nat.le_trans h0 hsz,.inr ⟨b,off,ha,hlo,hl,fun i=>?_,l,h,hd,fun i hi=>?_⟩⟩
  · rw [World.frozen?_of_block (w:=w) (a:=⟨b,i,none⟩) eb];exact hf i
  · obtain ⟨m0,m1,ai',ci',m2,m3,m4⟩:=hc i hi
    by_cases e:i=j
    · subst e;rw [upf_eq];exact ⟨m0,m1,ai,ci,k2.block eb,k3,hr⟩
    · rw [upf_ne _ _ e];exact ⟨m0,m1,ai',ci',m2.block eb,m3,m4.writes hw (by have:=hd i j hi hj e;omega)⟩
def cmR (r:Rw) (id y:Int):Rw:=if fob r.n r.U id=true then ⟨r.key,r.n,coS r.U y⟩ else r
def cmk (R:Nat→Rw) (id y:Int) (k i:Nat):Rw:=if i<k then cmR (R i) id y else R i
theorem cmk_zero (R:Nat→Rw) (id y:Int):cmk R id y 0=R:=by funext i;simp [cmk]
theorem cmk_at (R:Nat→Rw) (id y:Int) (k:Nat):cmk R id y k k=R k:=if_neg (Nat.lt_irrefl _)
theorem cmk_step (R:Nat→Rw) (id y:Int) (k i:Nat):upf (cmk R id y k) k (cmR (R k) id y) i=cmk R id y (k+1) i:=by
  by_cases e:i=k
  · subst e;rw [upf_eq];exact (if_pos (Nat.lt_succ_self _)).symm
  · rw [upf_ne _ _ e];unfold cmk;have:(i<k+1)↔(i<k):=(by omega);simp only [this]
theorem cmk_skip {R:Nat→Rw} {id y:Int} {k:Nat} (h:fob (R k).n (R k).U id=false) (i:Nat):cmk R id y k i=cmk R id y (k+1) i:=by
  rw [←cmk_step]
  by_cases e:i=k
  · subst e;rw [upf_eq,cmk_at];exact (if_neg (by simp [h])).symm
  · rw [upf_ne _ _ e]
set_option maxHeartbeats 2000000 in
theorem commitRows_any (q:Nat) (R:Nat→Rw) (a:Option Addr) (cap:Nat) (id y:Int) (lo hi:Nat) (w:World) (hq:q≤1048576) (h:OwnRw w lo hi a q R) :
    Calls Tryz.prog 98 #[.slice a q cap,.int .i64 id,.int .i64 y] w fun e w'=>e=.returned (.tuple #[])∧Writes lo hi w w'∧OwnRw w' lo hi a q (cmk R id y q):=by
  have HO0:Hid (OwnRw w lo hi a q (cmk R id y 0)):=(by rw [cmk_zero];exact h);clear h;go_enter Tryz.func98,Tryz.ntmps98;go_wp2_with fail;go_loopw [6,7,10] (fun _ _ i wr=>∃k:Nat,k≤q∧i=.int .i64 k∧Hid (Writes lo hi w wr)∧Hid (OwnRw wr lo hi a q (cmk R id y k))) (fun _ _ i _=>q-(intOf i).toNat)
  case atStart=>exact ⟨0,Nat.zero_le _,rfl,Writes.refl _ _ _,HO0⟩
  case round=>
    obtain ⟨k,hk,rfl,HW,HO⟩:=hrel
    by_cases hlt:k<q
    · have hlt':(k:Int)<(q:Int):=by omega
      have hk0:(0:Int)≤(k:Int):=(by omega);obtain ⟨b,off,ai,ci,l,hh,rfl,hlo,hhi,hC,hci,hlr,hown,hput⟩:=HO.out.chain hlt;rw [cmk_at] at hC hci hown hput
      have HV:Hid (VersAt wr ai (R k).n (R k).U):=hown.at
      have HOW:Hid (Own4 wr l hh ai (R k).n (R k).U):=hown;have HPT:Hid (∀U w1,Writes l hh wr w1→Own4 w1 l hh ai (R k).n U→OwnRw w1 lo hi (some ⟨b,off,none⟩) q (upf (cmk R id y k) k ⟨(R k).key,(R k).n,U⟩)):=hput;obtain ⟨x0,x1⟩:=hC;clear hown hput HO0;go_wp2_with fail;refine (firstIsOpenBy_any (R k).n (R k).U ai ci id wr HV.out).mono ?_;rintro e w1 ⟨rfl,hb1⟩;have HW1:Hid (Writes lo hi w w1):=HW.out.trans (Writes.of_below hb1);have HO1:Hid (OwnRw w1 lo hi (some ⟨b,off,none⟩) q (cmk R id y k)):=HO.out.below hb1;have HOW1:Hid (Own4 w1 l hh ai (R k).n (R k).U):=HOW.out.below hb1;have HPT1:Hid (∀U w2,Writes l hh w1 w2→Own4 w2 l hh ai (R k).n U→OwnRw w2 lo hi (some ⟨b,off,none⟩) q (upf (cmk R id y k) k ⟨(R k).key,(R k).n,U⟩)):=fun U w2 hw ho=>HPT.out U w2 ((Writes.of_below hb1).trans hw) ho;clear hb1 HW HO HV HOW HPT x0 x1
      obtain hf | hf:=bool_or2 (fob (R k).n (R k).U id)
      · have hp:0<(R k).n:=by
          unfold fob at hf;simp only [Bool.and_eq_true,decide_eq_true_eq] at hf;exact hf.1
        have hp1:(0:Int)<((R k).n:Int):=(by omega);have hcm:cmR (R k) id y=⟨(R k).key,(R k).n,coS (R k).U y⟩:=if_pos hf;obtain ⟨ho0,ho1 | ⟨vb,vo,rfl,hv1,hv2,hrow⟩⟩:=HOW1.out
        · omega
        obtain ⟨c0,c1,c2,c3⟩:=hrow.1 0 hp;have cf:=hrow.2;rw [Nat.zero_mul,Nat.add_zero] at c0 c1 c2 c3;have hws:Writes l hh w1 (w1.setCell ⟨vb,vo+1,none⟩ (.int .i64 y)):=Writes.setCell (Writes.refl _ _ _) (p:=⟨vb,vo+1,none⟩) hv1 hv2 _
        have HO2:Hid (OwnRw (w1.setCell ⟨vb,vo+1,none⟩ (.int .i64 y)) lo hi (some ⟨b,off,none⟩) q (cmk R id y (k+1))):=by
          have h:=HPT1.out (coS (R k).U y) _ hws ⟨Nat.le_trans ho0 hws.size,.inr ⟨vb,vo,rfl,hv1,hv2,row4_at hp hrow⟩⟩;rw [←hcm] at h;exact h.congr fun i _=>cmk_step R id y k i
        have HW2:Hid (Writes lo hi w (w1.setCell ⟨vb,vo+1,none⟩ (.int .i64 y))):=HW1.out.setCell (p:=⟨vb,vo+1,none⟩) (by show lo≤vb;omega) (by show vb<hi;omega) _;rw [hf];clear hf hcm hrow hws HW1 HO1 HOW1 HPT1;go_wp2_with fail;go_roundw
        case rel=>exact ⟨k+1,hlt,by go_num,HW2,HO2⟩
        case measure=>simp [intOf];omega
      · have HO2:Hid (OwnRw w1 lo hi (some ⟨b,off,none⟩) q (cmk R id y (k+1))):=HO1.out.congr fun i _=>cmk_skip hf i;rw [hf];clear hf HO1 HOW1 HPT1;go_wp2_with fail;go_roundw
        case rel=>exact ⟨k+1,hlt,by go_num,HW1,HO2⟩
        case measure=>simp [intOf];omega
    · have hkn:k=q:=by omega
      have hnl:¬((k:Int)<(q:Int)):=(by omega);subst hkn;clear HO0;go_wp2_with fail;go_end0;exact ⟨rfl,HW.out,HO.out⟩
theorem OwnTx.put {w w1:World} {lo hi b off n j:Nat} {T:Nat→Tx} {t:Tx} {ui:Option Addr} {uc:Nat} (h:OwnTx w lo hi (some ⟨b,off,none⟩) n T) (hj:j<n) (hw:Writes b (b+1) w w1)
    (hfar:∀o',(o'<off+j*5∨off+j*5+4<o')→w1.cell? ⟨b,o',none⟩=w.cell? ⟨b,o',none⟩) (hfr:∀i,w1.frozen? ⟨b,i,none⟩=w.frozen? ⟨b,i,none⟩) (hC:CTx w1 b (off+j*5) t ui uc) (hn:t.n=0) :
    OwnTx w1 lo hi (some ⟨b,off,none⟩) n (upf T j t):=by
  obtain ⟨h0,h1 | ⟨b1,off1,ha,hlo,hl,hf,l,h,hd,hc⟩⟩:=h
  · omega
  simp only [Option.some.injEq,Addr.mk.injEq,and_true] at ha;obtain ⟨rfl,rfl⟩:=ha;have hsz:=hw.size;refine ⟨Nat.le_trans h0 hsz,.inr ⟨b,off,rfl,hlo,hl,fun i=>(hfr i).trans (hf i),l,h,hd,fun i hi=>?_⟩⟩;obtain ⟨k0,k1,ai,ci,k2,k3,k4⟩:=hc i hi
  by_cases e:i=j
  · subst e;rw [upf_eq];refine ⟨k0,k1,ui,uc,hC,by omega,?_⟩;rw [hn];exact ⟨Nat.le_trans k4.1 hsz,.inl rfl⟩
  · rw [upf_ne _ _ e];refine ⟨k0,k1,ai,ci,?_,k3,k4.writes hw (by omega)⟩;have g:∀q,q<5→w1.cell? ⟨b,off+i*5+q,none⟩=w.cell? ⟨b,off+i*5+q,none⟩:=fun q hq=>hfar _ (by omega);obtain ⟨g0,g1,g2,g3,g4⟩:=k2;exact ⟨(g 0 (by omega)).trans g0,(g 1 (by omega)).trans g1,(g 2 (by omega)).trans g2,(g 3 (by omega)).trans g3,(g 4 (by omega)).trans g4⟩
theorem OwnTx.num {w w1:World} {lo hi b off n j:Nat} {T:Nat→Tx} {t:Tx} (h:OwnTx w lo hi (some ⟨b,off,none⟩) n T) (hj:j<n) (hw:Writes b (b+1) w w1)
    (hfar:∀o',(o'<off+j*5∨off+j*5+4<o')→w1.cell? ⟨b,o',none⟩=w.cell? ⟨b,o',none⟩) (hfr:∀i,w1.frozen? ⟨b,i,none⟩=w.frozen? ⟨b,i,none⟩) (hC:∀ui uc,CTx w b (off+j*5) (T j) ui uc→CTx w1 b (off+j*5) t ui uc) (hn:t.n=(T j).n) (hU:t.U=(T j).U) :
    OwnTx w1 lo hi (some ⟨b,off,none⟩) n (upf T j t):=by
  obtain ⟨h0,h1 | ⟨b1,off1,ha,hlo,hl,hf,l,h,hd,hc⟩⟩:=h
  · omega
  simp only [Option.some.injEq,Addr.mk.injEq,and_true] at ha;obtain ⟨rfl,rfl⟩:=ha;have hsz:=hw.size;refine ⟨Nat.le_trans h0 hsz,.inr ⟨b,off,rfl,hlo,hl,fun i=>(hfr i).trans (hf i),l,h,hd,fun i hi=>?_⟩⟩;obtain ⟨k0,k1,ai,ci,k2,k3,k4⟩:=hc i hi
  by_cases e:i=j
  · subst e;rw [upf_eq];refine ⟨k0,k1,ai,ci,hC _ _ k2,by omega,?_⟩;rw [hn,hU];exact k4.writes hw (by omega)
  · rw [upf_ne _ _ e];refine ⟨k0,k1,ai,ci,?_,k3,k4.writes hw (by omega)⟩;have g:∀q,q<5→w1.cell? ⟨b,off+i*5+q,none⟩=w.cell? ⟨b,off+i*5+q,none⟩:=fun q hq=>hfar _ (by omega);obtain ⟨g0,g1,g2,g3,g4⟩:=k2;exact ⟨(g 0 (by omega)).trans g0,(g 1 (by omega)).trans g1,(g 2 (by omega)).trans g2,(g 3 (by omega)).trans g3,(g 4 (by omega)).trans g4⟩
theorem Writes.drew1 {lo hi:Nat} {w w':World} (h:Writes lo hi w w'):Writes lo hi w w'.drew:=h.trans (Writes.of_below ((Below.refl _ _).drew))
def u4 (r:Ud):List Value:=[.int .i64 r.k,.bool r.h,.bool r.g,.int .i64 r.v]
def ub:List Ud→List Value
  | []=>[]
  | r :: rs=>u4 r ++ ub rs
theorem ub_len:∀xs,(ub xs).length=xs.length*4
  | []=>rfl
  | r :: rs=>by simp only [ub,List.length_append,ub_len rs,u4,List.length_cons,List.length_nil];omega
theorem ub_app:∀xs ys,ub (xs ++ ys)=ub xs ++ ub ys
  | [],ys=>rfl
  | r :: rs,ys=>by simp only [ub,List.cons_append,ub_app rs ys,List.append_assoc]
theorem ub_get:∀(xs:List Ud) (i j:Nat) (r:Ud),xs[i]? = some r→j<4→(ub xs)[i*4+j]? = (u4 r)[j]?
  | [],i,j,r,h,_=>by simp at h
  | x :: xs,0,j,r,h,hj=>by
    simp only [List.getElem?_cons_zero,Option.some.injEq] at h;subst h;simp only [ub];rw [List.getElem?_append_left (by simp [u4];omega)]
    congr 1;omega
  | x :: xs,i+1,j,r,h,hj=>by
    simp only [List.getElem?_cons_succ] at h;simp only [ub];rw [List.getElem?_append_right (by simp [u4];omega)];have:=ub_get xs i j r h hj;rw [←this]
    congr 1
    simp [u4];omega
theorem ub_one:∀xs,∀u ∈ ub xs,u.oneCell'=true
  | [],u,h=>by simp [ub] at h
  | r :: rs,u,h=>by
    simp only [ub,List.mem_append] at h
    rcases h with h | h
    · simp [u4] at h
      rcases h with rfl | rfl | rfl | rfl <;> rfl
    · exact ub_one rs u h
def uL (R:Nat→Ud) (n:Nat):List Ud:=(List.range n).map R
theorem uL_len (R:Nat→Ud) (n:Nat):(uL R n).length=n:=by simp [uL]
theorem uL_get {R:Nat→Ud} {n i:Nat} (h:i<n):(uL R n)[i]? = some (R i):=by simp [uL,h]
theorem ownU_of_row {w:World} {base n:Nat} {a:Option Addr} {cap:Nat} {xs:List Ud} (hl:xs.length=n) (h:w.ownsRow base 176 4 (.slice a n cap) n (ub xs)):OwnU w base w.heap.size a n (fun i=>xs.getD i zU):=by
  rcases h.2 with ⟨e,h0⟩ | ⟨g,cap',cur,e,hbg,hg,_⟩
  · exact ⟨Nat.le_refl _,.inl h0⟩
  · simp only [Value.slice.injEq,true_and] at e;obtain ⟨rfl,rfl⟩:=e
    have hlt:g<w.heap.size:=by
      obtain ⟨hlt,_⟩:=Array.getElem?_eq_some_iff.1 hg;exact hlt
    refine ⟨Nat.le_refl _,.inr ⟨g,0,rfl,hbg,hlt,fun i hi=>?_,fun i=>h.frozenAt _⟩⟩;obtain ⟨r,hr⟩:∃r,xs[i]? = some r:=⟨xs[i]'(by omega),by simp [hl,hi]⟩;have er:xs.getD i zU=r:=(by rw [List.getD_eq_getElem?_getD,hr];rfl);show CU w g (0+i*4) (xs.getD i zU);rw [er]
    have c:∀j v,j<4→(u4 r)[j]? = some v→w.cell? ⟨g,0+i*4+j,none⟩=some v:=fun j v hj hv=>by
      rw [h.cellAt (0+i*4+j) (by omega),show 0+i*4+j=i*4+j by omega,ub_get xs i j r hr hj,hv]
    exact ⟨c 0 _ (by omega) rfl,c 1 _ (by omega) rfl,c 2 _ (by omega) rfl,c 3 _ (by omega) rfl⟩
theorem row_sliceU {w:World} {base n:Nat} {v:Value} {xs:List Value} (h:w.ownsRow base 176 4 v n xs):∃a cap,v=.slice a n cap∧n≤cap:=by
  rcases h.2 with ⟨rfl,h0⟩ | ⟨g,cap,cur,rfl,_,_,h9,_⟩
  · exact ⟨none,0,by rw [h0],by omega⟩
  · exact ⟨_,cap,rfl,by omega⟩
theorem run_app_zeroU (w:World) (ty:TypeId) (ba:Option Addr) (n c:Nat) (xa:Option Addr) (xc:Nat) (h:n≤c) :
    (Builtin.append_ #[125,125] ty #[.slice ba n c,.slice xa 0 xc]).run Tryz.prog w=.ok (.slice ba n c) w:=by
  cases ba <;> cases xa <;> simp [Builtin.append_,go_sem,h,Builtin.firstCells,storeCells]
theorem wp_appU {o:Oper} {a:Act} {K:Act→World→Prop} {Q:Exit→Act→World→Prop} (w:World) (s x:Operand)
    (ho:o.op=.call { callee:=.builtin .append,args:=#[s,x],argTypes:=#[125,125] })
    (base:Nat) (v:Value) (xs:List Ud) (hs:a.eval s=v) (hown:w.ownsRow base 176 4 v xs.length (ub xs))
    (xa:Option Addr) (m c:Nat) (R:Nat→Ud) (hx:a.eval x=.slice xa m c) (hb:UndsAt w xa m R) (h63:xs.length+m≤100000) (hbase:base≤w.heap.size)
    (h:∀v' w',w'.ownsRow base 176 4 v' (xs ++ uL R m).length (ub (xs ++ uL R m))→w.grownBy w' v.ownBlock→K (a.put o.dst v') w'):o.wp Tryz.prog a w K Q:=by
  by_cases hm:m=0
  · subst hm;obtain ⟨ba,cap,rfl,hcap⟩:=row_sliceU hown;have hr:=run_app_zeroU w o.type ba xs.length cap xa c hcap;unfold Oper.wp execOp;simp only [ho,resolve,invoke,builtin,Sem.run_bind,Sem.run_pure,Result.andThen_ok,List.map_toArray,List.map_cons,List.map_nil,hs,hx,hr];refine h _ w ?_ (grown_refl _ _);have e:xs ++ uL R 0=xs:=(by simp [uL]);rw [e];exact hown
  · rcases hb with hb | ⟨b,off,rfl,hbl,hc⟩
    · exact absurd hb hm
    · obtain ⟨i0,hi,hz0,hz1,hz2⟩:=info_parts infoU;refine wp_append_own w s x 125 ho base 176 i0 _ 4 24 Tryz.underlying125 hi hz0 hz1 hz2 rfl (by decide) v xs.length (ub xs) hs hown ⟨b,off,none⟩ m c (ub (uL R m)) hx (by rw [ub_len,uL_len]) (fun j u hj=>?_) (ub_one _) (by unfold maxLen;omega) (by omega) hbase fun v' w' h2 h3 _=>h v' w' ?_ h3
      · have hjl:j<m*4:=by
          have:=(List.getElem?_eq_some_iff.1 hj).1
          rwa [ub_len,uL_len] at this
        have hg:=ub_get (uL R m) (j / 4) (j % 4) (R (j / 4)) (uL_get (by omega)) (by omega);rw [show j / 4*4+j % 4=j by omega,hj] at hg;rw [WideShapes.add_plain];obtain ⟨c0,c1,c2,c3⟩:=hc (j / 4) (by omega);have hd:j % 4=0∨j % 4=1∨j % 4=2∨j % 4=3:=(by omega)
        rcases hd with e | e | e | e
        · rw [e] at hg;rw [show off+j=off+j / 4*4 by omega,c0,hg];rfl
        · rw [e] at hg;rw [show off+j=off+j / 4*4+1 by omega,c1,hg];rfl
        · rw [e] at hg;rw [show off+j=off+j / 4*4+2 by omega,c2,hg];rfl
        · rw [e] at hg;rw [show off+j=off+j / 4*4+3 by omega,c3,hg];rfl
      · rw [List.length_append,uL_len,ub_app];exact h2
theorem wpList_appU {ops:Array Oper} {rest:List Oper} {o:Oper} {a:Act} {Q:Exit→Act→World→Prop} (w:World) (hgd:o.guard=none) (s x:Operand)
    (ho:o.op=.call { callee:=.builtin .append,args:=#[s,x],argTypes:=#[125,125] })
    (base:Nat) (v:Value) (xs:List Ud) (hs:a.eval s=v) (hown:w.ownsRow base 176 4 v xs.length (ub xs))
    (xa:Option Addr) (m c:Nat) (R:Nat→Ud) (hx:a.eval x=.slice xa m c) (hb:UndsAt w xa m R) (h63:xs.length+m≤100000) (hbase:base≤w.heap.size)
    (h:∀v' w',w'.ownsRow base 176 4 v' (xs ++ uL R m).length (ub (xs ++ uL R m))→w.grownBy w' v.ownBlock→wpList Tryz.prog ops Q rest (a.put o.dst v') w'):wpList Tryz.prog ops Q (o :: rest) a w:=
  wpList_plain hgd fun _ hK=>wp_appU w s x ho base v xs hs hown xa m c R hx hb h63 hbase fun v' w' h2 h3=>hK _ _ (h v' w' h2 h3)
def OwnUC (w:World) (lo hi:Nat) (a:Option Addr) (c n:Nat) (U:Nat→Ud):Prop:=
  hi≤w.heap.size∧w.ownsRow lo 176 4 (.slice a n c) n (ub (uL U n))∧∀q,(Value.slice a n c).ownBlock=some q→q<hi
theorem uL_congr {R S:Nat→Ud} {n:Nat} (e:∀i,i<n→R i=S i):uL R n=uL S n:=
  List.map_congr_left fun i hi=>e i (List.mem_range.1 hi)
theorem uL_self {xs:List Ud} {n:Nat} (h:xs.length=n):uL (fun i=>xs.getD i zU) n=xs:=by
  subst h;refine List.ext_getElem (uL_len _ _) fun i h1 h2=>?_;simp [uL,List.getD_eq_getElem?_getD,List.getElem?_eq_getElem h2]
theorem OwnUC.toU {w:World} {lo hi c n:Nat} {a:Option Addr} {U:Nat→Ud} (h:OwnUC w lo hi a c n U):OwnU w lo hi a n U:=by
  obtain ⟨h0,h1,h2⟩:=h
  have hz:∀i,i<n→(uL U n).getD i zU=U i:=fun i hi=>by rw [List.getD_eq_getElem?_getD,uL_get hi];rfl
  obtain ⟨-,h9 | ⟨b,off,e,k1,k2,k3⟩⟩:=(ownU_of_row (uL_len U n) h1).congr hz
  · exact ⟨h0,.inl h9⟩
  · exact ⟨h0,.inr ⟨b,off,e,k1,h2 b (by rw [e];rfl),k3⟩⟩
theorem OwnUC.congr {w:World} {lo hi c n:Nat} {a:Option Addr} {R S:Nat→Ud} (h:OwnUC w lo hi a c n R) (e:∀i,i<n→R i=S i):OwnUC w lo hi a c n S:=by
  unfold OwnUC;rw [←uL_congr e];exact h
theorem OwnUC.keep {w w':World} {lo hi c n:Nat} {a:Option Addr} {U:Nat→Ud} (h:OwnUC w lo hi a c n U) (hs:w.heap.size≤w'.heap.size) (hb:∀q,(Value.slice a n c).ownBlock=some q→w'.heap[q]? = w.heap[q]?):OwnUC w' lo hi a c n U:=by
  obtain ⟨h0,⟨h1,h3⟩,h2⟩:=h;refine ⟨Nat.le_trans h0 hs,⟨h1,?_⟩,h2⟩
  rcases h3 with h3 | ⟨g,cap,cur,e,k1,k2,k3⟩
  · exact .inl h3
  · exact .inr ⟨g,cap,cur,e,k1,(hb g (by rw [e];rfl)).trans k2,k3⟩
theorem OwnUC.writes {w w':World} {lo hi lo' hi' c n:Nat} {a:Option Addr} {U:Nat→Ud} (h:OwnUC w lo hi a c n U) (hw:Writes lo' hi' w w') (hd:hi≤lo'∨hi'≤lo):OwnUC w' lo hi a c n U:=
  h.keep hw.size fun q hq=>hw.block q (by have:=h.2.2 q hq;have:=h.1;omega) (by have h1:=h.2.2 q hq;have h2:=(h.2.1.lt q hq).1;omega)
theorem OwnUC.below {w w':World} {lo hi c n:Nat} {a:Option Addr} {U:Nat→Ud} (h:OwnUC w lo hi a c n U) (hb:Below w.heap.size w w'):OwnUC w' lo hi a c n U:=
  h.writes (Writes.of_below (lo:=hi) (hi:=hi) hb) (.inl (Nat.le_refl _))
theorem OwnUC.wide {w:World} {lo hi lo' hi' c n:Nat} {a:Option Addr} {U:Nat→Ud} (h:OwnUC w lo hi a c n U) (h1:lo'≤lo) (h2:hi≤hi') (h3:hi'≤w.heap.size):OwnUC w lo' hi' a c n U:=by
  obtain ⟨k0,⟨k1,k3⟩,k2⟩:=h;refine ⟨h3,⟨k1,?_⟩,fun q hq=>Nat.lt_of_lt_of_le (k2 q hq) h2⟩
  rcases k3 with k3 | ⟨g,cap,cur,e,m1,m2⟩
  · exact .inl k3
  · exact .inr ⟨g,cap,cur,e,Nat.le_trans h1 m1,m2⟩
theorem ownUC_of_row {w:World} {base n:Nat} {a:Option Addr} {cap:Nat} {xs:List Ud} (hl:xs.length=n) (h:w.ownsRow base 176 4 (.slice a n cap) n (ub xs)):OwnUC w base w.heap.size a cap n (fun i=>xs.getD i zU):=
  ⟨Nat.le_refl _,by rw [uL_self hl];exact h,fun q hq=>(h.lt q hq).2⟩
def UAns (m:Nat) (S:Nat→Ud) (w:World) (e:Ending) (w':World):Prop:=∃a cap,e=.returned (.slice a m cap)∧Below w.heap.size w w'∧OwnUC w' w.heap.size w'.heap.size a cap m S∧m≤cap
theorem UAns.of {w w':World} {v:Value} {xs:List Ud} {base:Nat} (hb:Below w.heap.size w w') (hl:w.heap.size≤base) (h:w'.ownsRow base 176 4 v xs.length (ub xs)):UAns xs.length (fun i=>xs.getD i zU) w (.returned v) w':=by
  obtain ⟨a,cap,rfl,hcap⟩:=row_sliceU h;exact ⟨a,cap,rfl,hb,(ownUC_of_row rfl h).wide hl (Nat.le_refl _) (Nat.le_refl _),hcap⟩
theorem uL_getD {R:Nat→Ud} {n i:Nat} (h:i<n):(uL R n).getD i zU=R i:=by rw [List.getD_eq_getElem?_getD,uL_get h];rfl
def ju (N:Nat→Nat) (Z:Nat→Nat→Ud):Nat→List Ud
  | 0=>[]
  | k+1=>ju N Z k ++ uL (Z k) (N k)
theorem ju_len (N:Nat→Nat) (Z:Nat→Nat→Ud):∀k,(∀i,i<k→N i≤100)→(ju N Z k).length≤k*100
  | 0,_=>by simp [ju]
  | k+1,h=>by
    have h1:=ju_len N Z k (fun i hi=>h i (by omega));have h2:=h k (by omega);simp only [ju,List.length_append,uL_len];omega
set_option maxHeartbeats 2000000 in
theorem joinedU_any (m:Nat) (A:Nat→Option Addr) (N C:Nat→Nat) (Z:Nat→Nat→Ud) (pb po pc:Nat) (w:World) (hs:∀i,i<m→N i≤100) (hpb:pb<w.heap.size)
    (hp:∀i,i<m→w.cell? ⟨pb,po+i,none⟩=some (.slice (A i) (N i) (C i))∧UndsAt w (A i) (N i) (Z i)) (hm:m≤3) :
    Calls Tryz.prog 156 #[.slice (some ⟨pb,po,none⟩) m pc] w (UAns (ju N Z m).length (fun i=>(ju N Z m).getD i zU) w):=by
  have HP:Hid (∀i,i<m→w.cell? ⟨pb,po+i,none⟩=some (.slice (A i) (N i) (C i))∧UndsAt w (A i) (N i) (Z i)):=hp;clear hp;go_enter Tryz.func156,Tryz.ntmps156;go_wp2_with fail;go_loopw [3,5,8] (fun v _ i wr=>∃k:Nat,k≤m∧i=.int .i64 k∧Hid (Below w.heap.size w wr)∧Hid (wr.ownsRow w.heap.size 176 4 v (ju N Z k).length (ub (ju N Z k)))) (fun _ _ i _=>m-(intOf i).toNat)
  case atStart=>exact ⟨0,by omega,rfl,Below.refl _ _,World.ownsRow_nil _ _ _ _⟩
  case round=>
    obtain ⟨k,hk,rfl,HB,HO⟩:=hrel
    by_cases hlt:k<m
    · have hlt':(k:Int)<(m:Int):=by omega
      have hk1:(0:Int)≤(k:Int):=(by omega);have hc:=cell_below (HP.out k hlt).1 HB.out;have HBA:Hid (UndsAt wr (A k) (N k) (Z k)):=(HP.out k hlt).2.below HB.out
      have HLE:Hid ((ju N Z k).length+N k≤100000):=by
        have h1:=ju_len N Z k (fun i hi=>hs i (by omega));have h2:=hs k hlt;show (ju N Z k).length+N k≤100000;omega
      go_wp2_with (at_builtin;refine wpList_appU _ rfl (.tmp 12) (.tmp 13) rfl w.heap.size _ (ju N Z k) rfl HO.out (A k) (N k) (C k) (Z k) rfl HBA.out HLE.out HB.out.size ?_);intro v1 w1 ho1 hg1
      have HO1:Hid (w1.ownsRow w.heap.size 176 4 v1 (ju N Z (k+1)).length (ub (ju N Z (k+1)))):=by
        show w1.ownsRow w.heap.size 176 4 v1 (ju N Z k ++ uL (Z k) (N k)).length (ub (ju N Z k ++ uL (Z k) (N k)));rw [List.length_append];exact ho1
      have HB1:Hid (Below w.heap.size w w1):=HB.out.grown hg1 HB.out.size (fun q hq=>(HO.out.lt q hq).1);clear ho1 hg1;go_wp2_with fail;go_roundw
      case rel=>exact ⟨k+1,hlt,by go_num,HB1,HO1⟩
      case measure=>simp [intOf];omega
    · have hkn:k=m:=by omega
      subst hkn;have HF:=UAns.of HB.out (Nat.le_refl _) HO.out;go_wp2_with fail;go_ret;exact HF
theorem joined1U_any (n:Nat) (R:Nat→Ud) (a:Option Addr) (cap:Nat) (pb:Nat) (w:World) (hn:n≤100) (hc:w.cell? ⟨pb,0,none⟩=some (.slice a n cap)) (h:UndsAt w a n R) :
    Calls Tryz.prog 156 #[.slice (some ⟨pb,0,none⟩) 1 1] w (UAns n R w):=by
  have hp:∀i,i<1→w.cell? ⟨pb,0+i,none⟩=some (.slice a n cap)∧UndsAt w a n R:=by
    intro i hi;have e:i=0:=(by omega);subst e;exact ⟨hc,h⟩
  refine (joinedU_any 1 (fun _=>a) (fun _=>n) (fun _=>cap) (fun _=>R) pb 0 1 w (fun i hi=>hn) (Go.block_lt_of_cell hc) hp (by omega)).mono ?_;rintro e w' ⟨a',cap',he,hb,ho,hcap⟩;have el:(ju (fun _=>n) (fun _=>R) 1).length=n:=(by simp [ju,uL_len]);rw [el] at he ho hcap;refine ⟨a',cap',he,hb,ho.congr (fun i hi=>?_),hcap⟩;simp only [ju,List.nil_append];exact uL_getD hi
theorem ownsRow_of {w w':World} {base n s:Nat} {e:TypeId} {v:Value} {xs:List Value} (h:w.ownsRow base e s v n xs) (hb:∀q,v.ownBlock=some q→w'.heap[q]? = w.heap[q]?):w'.ownsRow base e s v n xs:=by
  obtain ⟨h1,h2 | ⟨g,cap,cur,rfl,k1,k2,k3⟩⟩:=h
  · exact ⟨h1,.inl h2⟩
  · exact ⟨h1,.inr ⟨g,cap,cur,rfl,k1,(hb g rfl).trans k2,k3⟩⟩
theorem info_parts2 {P:Program} {t:TypeId} {z:Value} {s b:Nat} (h:(P.info? t).map (fun i=>(i.zero,i.size,i.bytes))=some (some z,s,b)):∃i,P.info? t=some i∧i.zero=some z∧i.size=s∧i.bytes=b:=by
  obtain ⟨i,hi,hzz⟩:=Option.map_eq_some_iff.1 h;simp only [Prod.mk.injEq] at hzz;exact ⟨i,hi,hzz.1,hzz.2.1,hzz.2.2⟩
def rcTx (t:Tx) (A:Option Addr) (c:Nat):List Value:=[.int .i64 t.id,.int .i64 t.am,.int .i64 t.st,.int .i64 t.dn,.slice A t.n c]
def rbTx (T:Nat→Tx) (A:Nat→Option Addr) (c:Nat→Nat):Nat→List Value
  | 0=>[]
  | k+1=>rbTx T A c k ++ rcTx (T k) (A k) (c k)
theorem rbTx_len (T:Nat→Tx) (A:Nat→Option Addr) (c:Nat→Nat):∀k,(rbTx T A c k).length=k*5
  | 0=>rfl
  | k+1=>by simp only [rbTx,List.length_append,rbTx_len T A c k,rcTx,List.length_cons,List.length_nil];omega
theorem rbTx_get (T:Nat→Tx) (A:Nat→Option Addr) (c:Nat→Nat):∀k i j,i<k→j<5→(rbTx T A c k)[i*5+j]? = (rcTx (T i) (A i) (c i))[j]?
  | 0,i,j,h,_=>by omega
  | k+1,i,j,h,hj=>by
    simp only [rbTx]
    by_cases e:i=k
    · subst e;rw [List.getElem?_append_right (by rw [rbTx_len];omega),rbTx_len]
      congr 1;omega
    · rw [List.getElem?_append_left (by rw [rbTx_len];omega)];exact rbTx_get T A c k i j (by omega) hj
theorem rbTx_congr {T T':Nat→Tx} {A A':Nat→Option Addr} {c c':Nat→Nat}:∀k,(∀i,i<k→T i=T' i∧A i=A' i∧c i=c' i)→rbTx T A c k=rbTx T' A' c' k
  | 0,_=>rfl
  | k+1,h=>by
    obtain ⟨e1,e2,e3⟩:=h k (by omega);simp only [rbTx,e1,e2,e3,rbTx_congr k (fun i hi=>h i (by omega))]
theorem rcTx_one (t:Tx) (A:Option Addr) (c:Nat):∀u ∈ rcTx t A c,u.oneCell'=true:=by
  intro u hu;simp [rcTx] at hu
  rcases hu with rfl | rfl | rfl | rfl | rfl <;> rfl
def GrTx (base top:Nat) (w:World) (v:Value) (k:Nat) (T:Nat→Tx):Prop:=
  top≤w.heap.size∧∃(A:Nat→Option Addr) (c l h:Nat→Nat),w.ownsRow base 127 5 v k (rbTx T A c k)∧(∀q,v.ownBlock=some q→q<top)∧(∀i j,i<k→j<k→i≠j→h i≤l j∨h j≤l i)∧
    ∀i,i<k→(∀q,v.ownBlock=some q→q<l i∨h i≤q)∧(h i=0∨base≤l i∧h i≤top)∧(T i).n≤c i∧OwnUC w (l i) (h i) (A i) (c i) (T i).n (T i).U
theorem GrTx.nil (base:Nat) (w:World) (T:Nat→Tx):GrTx base w.heap.size w (.slice none 0 0) 0 T:=
  ⟨Nat.le_refl _,fun _=>none,fun _=>0,fun _=>0,fun _=>0,World.ownsRow_nil _ _ _ _,fun q hq=>by simp [Value.ownBlock] at hq,fun i j hi=>by omega,fun i hi=>by omega⟩
theorem GrTx.writes {base top lo hi:Nat} {w w':World} {v:Value} {k:Nat} {T:Nat→Tx} (h:GrTx base top w v k T) (hw:Writes lo hi w w') (hd:hi≤base∨top≤lo):GrTx base top w' v k T:=by
  obtain ⟨h0,A,c,l,h,ho,hv,hj,hc⟩:=h;refine ⟨Nat.le_trans h0 hw.size,A,c,l,h,ownsRow_of ho fun q hq=>hw.block q (by have:=hv q hq;omega) (by have h1:=hv q hq;have h2:=(ho.lt q hq).1;omega),hv,hj,fun i hi=>?_⟩;obtain ⟨k1,k2,k3,k4⟩:=hc i hi;exact ⟨k1,k2,k3,k4.writes hw (by omega)⟩
theorem GrTx.below {base top:Nat} {w w':World} {v:Value} {k:Nat} {T:Nat→Tx} (h:GrTx base top w v k T) (hb:Below w.heap.size w w'):GrTx base top w' v k T:=
  h.writes (Writes.of_below (lo:=w.heap.size) (hi:=w.heap.size) hb) (.inr h.1)
theorem GrTx.congr {base top:Nat} {w:World} {v:Value} {k:Nat} {T T':Nat→Tx} (h:GrTx base top w v k T) (e:∀i,i<k→T i=T' i):GrTx base top w v k T':=by
  obtain ⟨h0,A,c,l,h,ho,hv,hj,hc⟩:=h;exact ⟨h0,A,c,l,h,by rw [←rbTx_congr k fun i hi=>⟨e i hi,rfl,rfl⟩];exact ho,hv,hj,fun i hi=>by rw [←e i hi];exact hc i hi⟩
theorem GrTx.own {base top:Nat} {w:World} {v:Value} {k:Nat} {T:Nat→Tx} (h:GrTx base top w v k T):∃a cap,v=.slice a k cap∧k≤cap∧OwnTx w base top a k T:=by
  obtain ⟨h0,A,c,l,h,ho,hv,hj,hc⟩:=h;have hown:=ho;obtain ⟨h1,⟨rfl,rfl⟩ | ⟨g,cap,cur,rfl,k1,k2,k3,k4⟩⟩:=ho
  · exact ⟨none,0,rfl,Nat.le_refl _,h0,.inl rfl⟩
  · have hg:=hv g rfl;refine ⟨_,cap,rfl,k3,h0,.inr ⟨g,0,rfl,k1,hg,fun i=>hown.frozenAt _,l,h,hj,fun i hi=>?_⟩⟩;obtain ⟨m1,m2,m3,m4⟩:=hc i hi;refine ⟨m1 g rfl,m2,A i,c i,?_,m3,m4.toU⟩
    have cc:∀j v,j<5→(rcTx (T i) (A i) (c i))[j]? = some v→w.cell? ⟨g,0+i*5+j,none⟩=some v:=fun j v hj hv=>by
      rw [hown.cellAt (0+i*5+j) (by omega),show 0+i*5+j=i*5+j by omega,rbTx_get T A c k i j hi hj,hv]
    exact ⟨cc 0 _ (by omega) rfl,cc 1 _ (by omega) rfl,cc 2 _ (by omega) rfl,cc 3 _ (by omega) rfl,cc 4 _ (by omega) rfl⟩
theorem GrTx.step {base top l' h' g cap:Nat} {w w':World} {v:Value} {k:Nat} {T:Nat→Tx} {t:Tx} {ai:Option Addr} {ci:Nat} (hk:(h'=0∨top≤l'∧h'≤w.heap.size)) (hb:base≤top) (hn:t.n≤ci) (hu:OwnUC w l' h' ai ci t.n t.U)
    (A:Nat→Option Addr) (c l h:Nat→Nat) (h0:top≤w.heap.size) (hv:∀q,v.ownBlock=some q→q<top) (hj:∀i j,i<k→j<k→i≠j→h i≤l j∨h j≤l i)
    (hc:∀i,i<k→(∀q,v.ownBlock=some q→q<l i∨h i≤q)∧(h i=0∨base≤l i∧h i≤top)∧(T i).n≤c i∧OwnUC w (l i) (h i) (A i) (c i) (T i).n (T i).U)
    (ho:w'.ownsRow base 127 5 (.slice (some ⟨g,0,none⟩) (k+1) cap) (k+1) (rbTx T A c k ++ rcTx t ai ci)) (hg:w.grownBy w' v.ownBlock) (hl:v.ownBlock=some g∨g=w.heap.size) (hlt:g<w'.heap.size) :
    GrTx base w'.heap.size w' (.slice (some ⟨g,0,none⟩) (k+1) cap) (k+1) (upf T k t):=by
  have hsz:=hg.size
  have far:∀L H,(∀q,v.ownBlock=some q→q<L∨H≤q)→∀a x n U,OwnUC w L H a x n U→OwnUC w' L H a x n U:=by
    intro L H hq a x n U hO;refine hO.keep hsz fun b hb=>?_;have b1:=hO.2.2 b hb;have b2:=hO.2.1.lt b hb
    exact hg.block b b2.2 fun e=>by have:=hq b e.symm;omega
  refine ⟨Nat.le_refl _,fun i=>if i=k then ai else A i,fun i=>if i=k then ci else c i,fun i=>if i=k then l' else l i,fun i=>if i=k then h' else h i,?_,fun q hq=>by simp [Value.ownBlock] at hq;subst hq;exact hlt,fun i j hi hj' hne=>?_,fun i hi=>?_⟩
  · have e:rbTx (upf T k t) (fun i=>if i=k then ai else A i) (fun i=>if i=k then ci else c i) (k+1)=rbTx T A c k ++ rcTx t ai ci:=by
      simp only [rbTx,upf_eq,if_true]
      congr 1
      exact rbTx_congr k fun i hi=>⟨upf_ne _ _ (by omega),if_neg (by omega),if_neg (by omega)⟩
    rw [e];exact ho
  · by_cases c1:i=k <;> by_cases c2:j=k <;> simp only [c1,c2,if_true,if_false]
    · omega
    · have:=(hc j (by omega)).2.1;omega
    · have:=(hc i (by omega)).2.1;omega
    · exact hj i j (by omega) (by omega) hne
  · by_cases e:i=k
    · subst e;simp only [if_true,upf_eq];refine ⟨fun q hq=>?_,by omega,hn,far l' h' (fun q hq=>by have:=hv q hq;omega) _ _ _ _ hu⟩;simp only [Value.ownBlock,Option.some.injEq] at hq;subst hq
      rcases hl with hl | hl
      · have:=hv g hl;omega
      · omega
    · simp only [if_neg e];rw [upf_ne _ _ e];obtain ⟨m1,m2,m3,m4⟩:=hc i (by omega);refine ⟨fun q hq=>?_,by omega,m3,far _ _ m1 _ _ _ _ m4⟩;simp only [Value.ownBlock,Option.some.injEq] at hq;subst hq
      rcases hl with hl | hl
      · exact m1 g hl
      · omega
theorem wp_grTx {o:Oper} {a:Act} {Kc:Act→World→Prop} {Q:Exit→Act→World→Prop} (w:World) (s x:Operand)
    (ho:o.op=.call { callee:=.builtin .append,args:=#[s,x],argTypes:=#[27,27] })
    (base top:Nat) (v:Value) (k:Nat) (T:Nat→Tx) (hs:a.eval s=v) (hgr:GrTx base top w v k T) (X O cx:Nat) (t:Tx) (ai:Option Addr) (ci l' h':Nat) (hx:a.eval x=.slice (some ⟨X,O,none⟩) 1 cx) (hC:CTx w X O t ai ci)
    (hk:(h'=0∨top≤l'∧h'≤w.heap.size)) (hb:base≤top) (hn:t.n≤ci) (hu:OwnUC w l' h' ai ci t.n t.U) (hlen:k≤100000)
    (hK:∀g cap w',GrTx base w'.heap.size w' (.slice (some ⟨g,0,none⟩) (k+1) cap) (k+1) (upf T k t)→w.grownBy w' v.ownBlock→Kc (a.put o.dst (.slice (some ⟨g,0,none⟩) (k+1) cap)) w'):o.wp Tryz.prog a w Kc Q:=by
  obtain ⟨i0,hi,hz0,hz1,hz2⟩:=info_parts2 infoTx;obtain ⟨h0,A,c,l,h,hown,hv,hj,hc⟩:=hgr;refine wp_append_lies w s x 27 ho base 127 i0 _ 5 56 Tryz.underlying27 hi hz0 hz1 hz2 rfl (by decide) v k (rbTx T A c k) hs hown ⟨X,O,none⟩ 1 cx (rcTx t ai ci) hx rfl (fun j u hju=>?_) (rcTx_one _ _ _) (by decide) (by unfold maxLen;omega) (by omega) (by omega) _ rfl ?_
  · obtain ⟨h0,h1,h2,h3,h4⟩:=hC;rw [WideShapes.add_plain];have hd:j<5:=(by have:=(List.getElem?_eq_some_iff.1 hju).1;simpa [rcTx] using this);have hd2:j=0∨j=1∨j=2∨j=3∨j=4:=(by omega)
    rcases hd2 with rfl | rfl | rfl | rfl | rfl
    · rw [←hju];rw [Nat.add_zero];exact h0
    · rw [←hju];exact h1
    · rw [←hju];exact h2
    · rw [←hju];exact h3
    · rw [←hju];exact h4
  · intro g cap w' ho2 hg2 hl2 hlt2;exact hK g cap w' (GrTx.step hk hb hn hu A c l h h0 hv hj hc ho2 hg2 hl2 hlt2) hg2
theorem wpList_grTx {ops:Array Oper} {rest:List Oper} {o:Oper} {a:Act} {Q:Exit→Act→World→Prop} (w:World) (hgd:o.guard=none) (s x:Operand)
    (ho:o.op=.call { callee:=.builtin .append,args:=#[s,x],argTypes:=#[27,27] })
    (base top:Nat) (v:Value) (k:Nat) (T:Nat→Tx) (hs:a.eval s=v) (hgr:GrTx base top w v k T) (X O cx:Nat) (t:Tx) (ai:Option Addr) (ci l' h':Nat) (hx:a.eval x=.slice (some ⟨X,O,none⟩) 1 cx) (hC:CTx w X O t ai ci)
    (hk:(h'=0∨top≤l'∧h'≤w.heap.size)) (hb:base≤top) (hn:t.n≤ci) (hu:OwnUC w l' h' ai ci t.n t.U) (hlen:k≤100000)
    (hK:∀g cap w',GrTx base w'.heap.size w' (.slice (some ⟨g,0,none⟩) (k+1) cap) (k+1) (upf T k t)→w.grownBy w' v.ownBlock→wpList Tryz.prog ops Q rest (a.put o.dst (.slice (some ⟨g,0,none⟩) (k+1) cap)) w'):wpList Tryz.prog ops Q (o :: rest) a w:=
  wpList_plain hgd fun _ hKK=>wp_grTx w s x ho base top v k T hs hgr X O cx t ai ci l' h' hx hC hk hb hn hu hlen fun g cap w' h2 h3=>hKK _ _ (hK g cap w' h2 h3)
def rcRw (t:Rw) (A:Option Addr) (c:Nat):List Value:=[.int .i64 t.key,.slice A t.n c]
def rbRw (T:Nat→Rw) (A:Nat→Option Addr) (c:Nat→Nat):Nat→List Value
  | 0=>[]
  | k+1=>rbRw T A c k ++ rcRw (T k) (A k) (c k)
theorem rbRw_len (T:Nat→Rw) (A:Nat→Option Addr) (c:Nat→Nat):∀k,(rbRw T A c k).length=k*2
  | 0=>rfl
  | k+1=>by simp only [rbRw,List.length_append,rbRw_len T A c k,rcRw,List.length_cons,List.length_nil];omega
theorem rbRw_get (T:Nat→Rw) (A:Nat→Option Addr) (c:Nat→Nat):∀k i j,i<k→j<2→(rbRw T A c k)[i*2+j]? = (rcRw (T i) (A i) (c i))[j]?
  | 0,i,j,h,_=>by omega
  | k+1,i,j,h,hj=>by
    simp only [rbRw]
    by_cases e:i=k
    · subst e;rw [List.getElem?_append_right (by rw [rbRw_len];omega),rbRw_len]
      congr 1;omega
    · rw [List.getElem?_append_left (by rw [rbRw_len];omega)];exact rbRw_get T A c k i j (by omega) hj
theorem rbRw_congr {T T':Nat→Rw} {A A':Nat→Option Addr} {c c':Nat→Nat}:∀k,(∀i,i<k→T i=T' i∧A i=A' i∧c i=c' i)→rbRw T A c k=rbRw T' A' c' k
  | 0,_=>rfl
  | k+1,h=>by
    obtain ⟨e1,e2,e3⟩:=h k (by omega);simp only [rbRw,e1,e2,e3,rbRw_congr k (fun i hi=>h i (by omega))]
theorem rcRw_one (t:Rw) (A:Option Addr) (c:Nat):∀u ∈ rcRw t A c,u.oneCell'=true:=by
  intro u hu;simp [rcRw] at hu
  rcases hu with rfl | rfl <;> rfl
def GrRw (base top:Nat) (w:World) (v:Value) (k:Nat) (T:Nat→Rw):Prop:=
  top≤w.heap.size∧∃(A:Nat→Option Addr) (c l h:Nat→Nat),w.ownsRow base 173 2 v k (rbRw T A c k)∧(∀q,v.ownBlock=some q→q<top)∧(∀i j,i<k→j<k→i≠j→h i≤l j∨h j≤l i)∧
    ∀i,i<k→(∀q,v.ownBlock=some q→q<l i∨h i≤q)∧(h i=0∨base≤l i∧h i≤top)∧(T i).n≤c i∧Own4 w (l i) (h i) (A i) (T i).n (T i).U
theorem GrRw.nil (base:Nat) (w:World) (T:Nat→Rw):GrRw base w.heap.size w (.slice none 0 0) 0 T:=
  ⟨Nat.le_refl _,fun _=>none,fun _=>0,fun _=>0,fun _=>0,World.ownsRow_nil _ _ _ _,fun q hq=>by simp [Value.ownBlock] at hq,fun i j hi=>by omega,fun i hi=>by omega⟩
theorem GrRw.writes {base top lo hi:Nat} {w w':World} {v:Value} {k:Nat} {T:Nat→Rw} (h:GrRw base top w v k T) (hw:Writes lo hi w w') (hd:hi≤base∨top≤lo):GrRw base top w' v k T:=by
  obtain ⟨h0,A,c,l,h,ho,hv,hj,hc⟩:=h;refine ⟨Nat.le_trans h0 hw.size,A,c,l,h,ownsRow_of ho fun q hq=>hw.block q (by have:=hv q hq;omega) (by have h1:=hv q hq;have h2:=(ho.lt q hq).1;omega),hv,hj,fun i hi=>?_⟩;obtain ⟨k1,k2,k3,k4⟩:=hc i hi;exact ⟨k1,k2,k3,k4.writes hw (by omega)⟩
theorem GrRw.below {base top:Nat} {w w':World} {v:Value} {k:Nat} {T:Nat→Rw} (h:GrRw base top w v k T) (hb:Below w.heap.size w w'):GrRw base top w' v k T:=
  h.writes (Writes.of_below (lo:=w.heap.size) (hi:=w.heap.size) hb) (.inr h.1)
theorem GrRw.wide {base top top':Nat} {w:World} {v:Value} {k:Nat} {T:Nat→Rw} (h:GrRw base top w v k T) (h1:top≤top') (h2:top'≤w.heap.size):GrRw base top' w v k T:=by
  obtain ⟨h0,A,c,l,h,ho,hv,hj,hc⟩:=h;exact ⟨h2,A,c,l,h,ho,fun q hq=>Nat.lt_of_lt_of_le (hv q hq) h1,hj,fun i hi=>by obtain ⟨k1,k2,k3⟩:=hc i hi;exact ⟨k1,by omega,k3⟩⟩
theorem GrRw.congr {base top:Nat} {w:World} {v:Value} {k:Nat} {T T':Nat→Rw} (h:GrRw base top w v k T) (e:∀i,i<k→T i=T' i):GrRw base top w v k T':=by
  obtain ⟨h0,A,c,l,h,ho,hv,hj,hc⟩:=h;exact ⟨h0,A,c,l,h,by rw [←rbRw_congr k fun i hi=>⟨e i hi,rfl,rfl⟩];exact ho,hv,hj,fun i hi=>by rw [←e i hi];exact hc i hi⟩
theorem GrRw.own {base top:Nat} {w:World} {v:Value} {k:Nat} {T:Nat→Rw} (h:GrRw base top w v k T):∃a cap,v=.slice a k cap∧k≤cap∧OwnRw w base top a k T:=by
  obtain ⟨h0,A,c,l,h,ho,hv,hj,hc⟩:=h;have hown:=ho;obtain ⟨h1,⟨rfl,rfl⟩ | ⟨g,cap,cur,rfl,k1,k2,k3,k4⟩⟩:=ho
  · exact ⟨none,0,rfl,Nat.le_refl _,h0,.inl rfl⟩
  · have hg:=hv g rfl;refine ⟨_,cap,rfl,k3,h0,.inr ⟨g,0,rfl,k1,hg,fun i=>hown.frozenAt _,l,h,hj,fun i hi=>?_⟩⟩;obtain ⟨m1,m2,m3,m4⟩:=hc i hi;refine ⟨m1 g rfl,m2,A i,c i,?_,m3,m4⟩
    have cc:∀j v,j<2→(rcRw (T i) (A i) (c i))[j]? = some v→w.cell? ⟨g,0+i*2+j,none⟩=some v:=fun j v hj hv=>by
      rw [hown.cellAt (0+i*2+j) (by omega),show 0+i*2+j=i*2+j by omega,rbRw_get T A c k i j hi hj,hv]
    exact ⟨cc 0 _ (by omega) rfl,cc 1 _ (by omega) rfl⟩
theorem GrRw.step {base top l' h' g cap:Nat} {w w':World} {v:Value} {k:Nat} {T:Nat→Rw} {t:Rw} {ai:Option Addr} {ci:Nat} (hk:(h'=0∨top≤l'∧h'≤w.heap.size)) (hb:base≤top) (hn:t.n≤ci) (hu:Own4 w l' h' ai t.n t.U)
    (A:Nat→Option Addr) (c l h:Nat→Nat) (h0:top≤w.heap.size) (hv:∀q,v.ownBlock=some q→q<top) (hj:∀i j,i<k→j<k→i≠j→h i≤l j∨h j≤l i)
    (hc:∀i,i<k→(∀q,v.ownBlock=some q→q<l i∨h i≤q)∧(h i=0∨base≤l i∧h i≤top)∧(T i).n≤c i∧Own4 w (l i) (h i) (A i) (T i).n (T i).U)
    (ho:w'.ownsRow base 173 2 (.slice (some ⟨g,0,none⟩) (k+1) cap) (k+1) (rbRw T A c k ++ rcRw t ai ci)) (hg:w.grownBy w' v.ownBlock) (hl:v.ownBlock=some g∨g=w.heap.size) (hlt:g<w'.heap.size) :
    GrRw base w'.heap.size w' (.slice (some ⟨g,0,none⟩) (k+1) cap) (k+1) (upf T k t):=by
  have hsz:=hg.size
  have far:∀L H,(∀q,v.ownBlock=some q→q<L∨H≤q)→∀a n U,Own4 w L H a n U→Own4 w' L H a n U:=by
    intro L H hq a n U hO;obtain ⟨o0,o1 | ⟨b,off,rfl,p1,p2,p3⟩⟩:=hO
    · exact ⟨by omega,.inl o1⟩
    · have hne:some b≠v.ownBlock:=fun e=>by have:=hq b e.symm;omega
      have e:=hg.block b (by omega) hne;refine ⟨by omega,.inr ⟨b,off,rfl,p1,p2,?_⟩⟩;exact row4_block p3 e
  refine ⟨Nat.le_refl _,fun i=>if i=k then ai else A i,fun i=>if i=k then ci else c i,fun i=>if i=k then l' else l i,fun i=>if i=k then h' else h i,?_,fun q hq=>by simp [Value.ownBlock] at hq;subst hq;exact hlt,fun i j hi hj' hne=>?_,fun i hi=>?_⟩
  · have e:rbRw (upf T k t) (fun i=>if i=k then ai else A i) (fun i=>if i=k then ci else c i) (k+1)=rbRw T A c k ++ rcRw t ai ci:=by
      simp only [rbRw,upf_eq,if_true]
      congr 1
      exact rbRw_congr k fun i hi=>⟨upf_ne _ _ (by omega),if_neg (by omega),if_neg (by omega)⟩
    rw [e];exact ho
  · by_cases c1:i=k <;> by_cases c2:j=k <;> simp only [c1,c2,if_true,if_false]
    · omega
    · have:=(hc j (by omega)).2.1;omega
    · have:=(hc i (by omega)).2.1;omega
    · exact hj i j (by omega) (by omega) hne
  · by_cases e:i=k
    · subst e;simp only [if_true,upf_eq];refine ⟨fun q hq=>?_,by omega,hn,far l' h' (fun q hq=>by have:=hv q hq;omega) _ _ _ hu⟩;simp only [Value.ownBlock,Option.some.injEq] at hq;subst hq
      rcases hl with hl | hl
      · have:=hv g hl;omega
      · omega
    · simp only [if_neg e];rw [upf_ne _ _ e];obtain ⟨m1,m2,m3,m4⟩:=hc i (by omega);refine ⟨fun q hq=>?_,by omega,m3,far _ _ m1 _ _ _ m4⟩;simp only [Value.ownBlock,Option.some.injEq] at hq;subst hq
      rcases hl with hl | hl
      · exact m1 g hl
      · omega
theorem wp_grRw {o:Oper} {a:Act} {Kc:Act→World→Prop} {Q:Exit→Act→World→Prop} (w:World) (s x:Operand)
    (ho:o.op=.call { callee:=.builtin .append,args:=#[s,x],argTypes:=#[28,28] })
    (base top:Nat) (v:Value) (k:Nat) (T:Nat→Rw) (hs:a.eval s=v) (hgr:GrRw base top w v k T) (X O cx:Nat) (t:Rw) (ai:Option Addr) (ci l' h':Nat) (hx:a.eval x=.slice (some ⟨X,O,none⟩) 1 cx) (hC:CRw w X O t ai ci)
    (hk:(h'=0∨top≤l'∧h'≤w.heap.size)) (hb:base≤top) (hn:t.n≤ci) (hu:Own4 w l' h' ai t.n t.U) (hlen:k≤100000)
    (hK:∀g cap w',GrRw base w'.heap.size w' (.slice (some ⟨g,0,none⟩) (k+1) cap) (k+1) (upf T k t)→w.grownBy w' v.ownBlock→Kc (a.put o.dst (.slice (some ⟨g,0,none⟩) (k+1) cap)) w'):o.wp Tryz.prog a w Kc Q:=by
  obtain ⟨i0,hi,hz0,hz1,hz2⟩:=info_parts2 infoRw;obtain ⟨h0,A,c,l,h,hown,hv,hj,hc⟩:=hgr;refine wp_append_lies w s x 28 ho base 173 i0 _ 2 32 Tryz.underlying28 hi hz0 hz1 hz2 rfl (by decide) v k (rbRw T A c k) hs hown ⟨X,O,none⟩ 1 cx (rcRw t ai ci) hx rfl (fun j u hju=>?_) (rcRw_one _ _ _) (by decide) (by unfold maxLen;omega) (by omega) (by omega) _ rfl ?_
  · obtain ⟨h0,h1⟩:=hC;rw [WideShapes.add_plain];have hd:j<2:=(by have:=(List.getElem?_eq_some_iff.1 hju).1;simpa [rcRw] using this);have hd2:j=0∨j=1:=(by omega)
    rcases hd2 with rfl | rfl
    · rw [←hju];rw [Nat.add_zero];exact h0
    · rw [←hju];exact h1
  · intro g cap w' ho2 hg2 hl2 hlt2;exact hK g cap w' (GrRw.step hk hb hn hu A c l h h0 hv hj hc ho2 hg2 hl2 hlt2) hg2
theorem wpList_grRw {ops:Array Oper} {rest:List Oper} {o:Oper} {a:Act} {Q:Exit→Act→World→Prop} (w:World) (hgd:o.guard=none) (s x:Operand)
    (ho:o.op=.call { callee:=.builtin .append,args:=#[s,x],argTypes:=#[28,28] })
    (base top:Nat) (v:Value) (k:Nat) (T:Nat→Rw) (hs:a.eval s=v) (hgr:GrRw base top w v k T) (X O cx:Nat) (t:Rw) (ai:Option Addr) (ci l' h':Nat) (hx:a.eval x=.slice (some ⟨X,O,none⟩) 1 cx) (hC:CRw w X O t ai ci)
    (hk:(h'=0∨top≤l'∧h'≤w.heap.size)) (hb:base≤top) (hn:t.n≤ci) (hu:Own4 w l' h' ai t.n t.U) (hlen:k≤100000)
    (hK:∀g cap w',GrRw base w'.heap.size w' (.slice (some ⟨g,0,none⟩) (k+1) cap) (k+1) (upf T k t)→w.grownBy w' v.ownBlock→wpList Tryz.prog ops Q rest (a.put o.dst (.slice (some ⟨g,0,none⟩) (k+1) cap)) w'):wpList Tryz.prog ops Q (o :: rest) a w:=
  wpList_plain hgd fun _ hKK=>wp_grRw w s x ho base top v k T hs hgr X O cx t ai ci l' h' hx hC hk hb hn hu hlen fun g cap w' h2 h3=>hKK _ _ (hK g cap w' h2 h3)
theorem step_grRw {ops:Array Oper} {o:Oper} {a:Act} {Kc:Act→World→Prop} {Q:Exit→Act→World→Prop} {Ee:Prop} (w:World) (hgd:o.guard=none) (s x:Operand)
    (ho:o.op=.call { callee:=.builtin .append,args:=#[s,x],argTypes:=#[28,28] })
    (base top:Nat) (v:Value) (k:Nat) (T:Nat→Rw) (hs:a.eval s=v) (hgr:GrRw base top w v k T) (X O cx:Nat) (t:Rw) (ai:Option Addr) (ci l' h':Nat) (hx:a.eval x=.slice (some ⟨X,O,none⟩) 1 cx) (hC:CRw w X O t ai ci)
    (hk:(h'=0∨top≤l'∧h'≤w.heap.size)) (hb:base≤top) (hn:t.n≤ci) (hu:Own4 w l' h' ai t.n t.U) (hlen:k≤100000)
    (hK:∀g cap w',GrRw base w'.heap.size w' (.slice (some ⟨g,0,none⟩) (k+1) cap) (k+1) (upf T k t)→w.grownBy w' v.ownBlock→Kc (a.put o.dst (.slice (some ⟨g,0,none⟩) (k+1) cap)) w') :
    if Region.wanted o (yielded ops a.tmps)=true then Oper.wp Tryz.prog o a w Kc Q else Ee:=by
  have hw:Region.wanted o (yielded ops a.tmps)=true:=(by simp [Region.wanted,hgd]);rw [if_pos hw];exact wp_grRw w s x ho base top v k T hs hgr X O cx t ai ci l' h' hx hC hk hb hn hu hlen hK
def v4w (r:Vr):List Value:=[.int .i64 r.t,.int .i64 r.a,.bool r.g,.int .i64 r.v]
def vbw:List Vr→List Value
  | []=>[]
  | r :: rs=>v4w r ++ vbw rs
theorem vb_lenw:∀xs,(vbw xs).length=xs.length*4
  | []=>rfl
  | r :: rs=>by simp only [vbw,List.length_append,vb_lenw rs,v4w,List.length_cons,List.length_nil];omega
theorem vb_appw:∀xs ys,vbw (xs ++ ys)=vbw xs ++ vbw ys
  | [],ys=>rfl
  | r :: rs,ys=>by simp only [vbw,List.cons_append,vb_appw rs ys,List.append_assoc]
theorem vb_getw:∀(xs:List Vr) (i j:Nat) (r:Vr),xs[i]? = some r→j<4→(vbw xs)[i*4+j]? = (v4w r)[j]?
  | [],i,j,r,h,_=>by simp at h
  | x :: xs,0,j,r,h,hj=>by
    simp only [List.getElem?_cons_zero,Option.some.injEq] at h;subst h;simp only [vbw];rw [List.getElem?_append_left (by simp [v4w];omega)]
    congr 1;omega
  | x :: xs,i+1,j,r,h,hj=>by
    simp only [List.getElem?_cons_succ] at h;simp only [vbw];rw [List.getElem?_append_right (by simp [v4w];omega)];have:=vb_getw xs i j r h hj;rw [←this]
    congr 1
    simp [v4w];omega
theorem vb_onew:∀xs,∀u ∈ vbw xs,u.oneCell'=true
  | [],u,h=>by simp [vbw] at h
  | r :: rs,u,h=>by
    simp only [vbw,List.mem_append] at h
    rcases h with h | h
    · simp [v4w] at h
      rcases h with rfl | rfl | rfl | rfl <;> rfl
    · exact vb_onew rs u h
def vLw (R:Nat→Vr) (n:Nat):List Vr:=(List.range n).map R
theorem vL_lenw (R:Nat→Vr) (n:Nat):(vLw R n).length=n:=by simp [vLw]
theorem vL_getw {R:Nat→Vr} {n i:Nat} (h:i<n):(vLw R n)[i]? = some (R i):=by simp [vLw,h]
theorem own4_of_roww {w:World} {base n:Nat} {a:Option Addr} {cap:Nat} {xs:List Vr} (hl:xs.length=n) (h:w.ownsRow base 179 4 (.slice a n cap) n (vbw xs)):Own4 w base w.heap.size a n (fun i=>xs.getD i zV):=by
  rcases h.2 with ⟨e,h0⟩ | ⟨g,cap',cur,e,hbg,hg,_⟩
  · exact ⟨Nat.le_refl _,.inl h0⟩
  · simp only [Value.slice.injEq,true_and] at e;obtain ⟨rfl,rfl⟩:=e
    have hlt:g<w.heap.size:=by
      obtain ⟨hlt,_⟩:=Array.getElem?_eq_some_iff.1 hg;exact hlt
    refine ⟨Nat.le_refl _,.inr ⟨g,0,rfl,hbg,hlt,fun i hi=>?_,fun i=>h.frozenAt _⟩⟩;obtain ⟨r,hr⟩:∃r,xs[i]? = some r:=⟨xs[i]'(by omega),by simp [hl,hi]⟩;have er:xs.getD i zV=r:=(by rw [List.getD_eq_getElem?_getD,hr];rfl);show C4 w g (0+i*4) (xs.getD i zV);rw [er]
    have c:∀j v,j<4→(v4w r)[j]? = some v→w.cell? ⟨g,0+i*4+j,none⟩=some v:=fun j v hj hv=>by
      rw [h.cellAt (0+i*4+j) (by omega),show 0+i*4+j=i*4+j by omega,vb_getw xs i j r hr hj,hv]
    exact ⟨c 0 _ (by omega) rfl,c 1 _ (by omega) rfl,c 2 _ (by omega) rfl,c 3 _ (by omega) rfl⟩
theorem row_slicew {w:World} {base n:Nat} {v:Value} {xs:List Value} (h:w.ownsRow base 179 4 v n xs):∃a cap,v=.slice a n cap∧n≤cap:=by
  rcases h.2 with ⟨rfl,h0⟩ | ⟨g,cap,cur,rfl,_,_,h9,_⟩
  · exact ⟨none,0,by rw [h0],by omega⟩
  · exact ⟨_,cap,rfl,by omega⟩
theorem run_app_zeroVw (w:World) (ty:TypeId) (ba:Option Addr) (n c:Nat) (xa:Option Addr) (xc:Nat) (h:n≤c) :
    (Builtin.append_ #[155,155] ty #[.slice ba n c,.slice xa 0 xc]).run Tryz.prog w=.ok (.slice ba n c) w:=by
  cases ba <;> cases xa <;> simp [Builtin.append_,go_sem,h,Builtin.firstCells,storeCells]
theorem wp_appVw {o:Oper} {a:Act} {K:Act→World→Prop} {Q:Exit→Act→World→Prop} (w:World) (s x:Operand)
    (ho:o.op=.call { callee:=.builtin .append,args:=#[s,x],argTypes:=#[155,155] })
    (base:Nat) (v:Value) (xs:List Vr) (hs:a.eval s=v) (hown:w.ownsRow base 179 4 v xs.length (vbw xs))
    (xa:Option Addr) (m c:Nat) (R:Nat→Vr) (hx:a.eval x=.slice xa m c) (hb:VersAt w xa m R) (h63:xs.length+m≤100000) (hbase:base≤w.heap.size)
    (h:∀v' w',w'.ownsRow base 179 4 v' (xs ++ vLw R m).length (vbw (xs ++ vLw R m))→w.grownBy w' v.ownBlock→K (a.put o.dst v') w'):o.wp Tryz.prog a w K Q:=by
  by_cases hm:m=0
  · subst hm;obtain ⟨ba,cap,rfl,hcap⟩:=row_slicew hown;have hr:=run_app_zeroVw w o.type ba xs.length cap xa c hcap;unfold Oper.wp execOp;simp only [ho,resolve,invoke,builtin,Sem.run_bind,Sem.run_pure,Result.andThen_ok,List.map_toArray,List.map_cons,List.map_nil,hs,hx,hr];refine h _ w ?_ (grown_refl _ _);have e:xs ++ vLw R 0=xs:=(by simp [vLw]);rw [e];exact hown
  · rcases hb with hb | ⟨b,off,rfl,hbl,hc⟩
    · exact absurd hb hm
    · obtain ⟨i0,hi,hz0,hz1,hz2⟩:=info_parts infoV;refine wp_append_own w s x 155 ho base 179 i0 _ 4 32 Tryz.underlying155 hi hz0 hz1 hz2 rfl (by decide) v xs.length (vbw xs) hs hown ⟨b,off,none⟩ m c (vbw (vLw R m)) hx (by rw [vb_lenw,vL_lenw]) (fun j u hj=>?_) (vb_onew _) (by unfold maxLen;omega) (by omega) hbase fun v' w' h2 h3 _=>h v' w' ?_ h3
      · have hjl:j<m*4:=by
          have:=(List.getElem?_eq_some_iff.1 hj).1
          rwa [vb_lenw,vL_lenw] at this
        have hg:=vb_getw (vLw R m) (j / 4) (j % 4) (R (j / 4)) (vL_getw (by omega)) (by omega);rw [show j / 4*4+j % 4=j by omega,hj] at hg;rw [WideShapes.add_plain];obtain ⟨c0,c1,c2,c3⟩:=hc (j / 4) (by omega);have hd:j % 4=0∨j % 4=1∨j % 4=2∨j % 4=3:=(by omega)
        rcases hd with e | e | e | e
        · rw [e] at hg;rw [show off+j=off+j / 4*4 by omega,c0,hg];rfl
        · rw [e] at hg;rw [show off+j=off+j / 4*4+1 by omega,c1,hg];rfl
        · rw [e] at hg;rw [show off+j=off+j / 4*4+2 by omega,c2,hg];rfl
        · rw [e] at hg;rw [show off+j=off+j / 4*4+3 by omega,c3,hg];rfl
      · rw [List.length_append,vL_lenw,vb_appw];exact h2
theorem wpList_appVw {ops:Array Oper} {rest:List Oper} {o:Oper} {a:Act} {Q:Exit→Act→World→Prop} (w:World) (hgd:o.guard=none) (s x:Operand)
    (ho:o.op=.call { callee:=.builtin .append,args:=#[s,x],argTypes:=#[155,155] })
    (base:Nat) (v:Value) (xs:List Vr) (hs:a.eval s=v) (hown:w.ownsRow base 179 4 v xs.length (vbw xs))
    (xa:Option Addr) (m c:Nat) (R:Nat→Vr) (hx:a.eval x=.slice xa m c) (hb:VersAt w xa m R) (h63:xs.length+m≤100000) (hbase:base≤w.heap.size)
    (h:∀v' w',w'.ownsRow base 179 4 v' (xs ++ vLw R m).length (vbw (xs ++ vLw R m))→w.grownBy w' v.ownBlock→wpList Tryz.prog ops Q rest (a.put o.dst v') w'):wpList Tryz.prog ops Q (o :: rest) a w:=
  wpList_plain hgd fun _ hK=>wp_appVw w s x ho base v xs hs hown xa m c R hx hb h63 hbase fun v' w' h2 h3=>hK _ _ (h v' w' h2 h3)
def VAnw (m:Nat) (S:Nat→Vr) (w:World) (e:Ending) (w':World):Prop:=∃a cap,e=.returned (.slice a m cap)∧Below w.heap.size w w'∧Own4 w' w.heap.size w'.heap.size a m S∧m≤cap
theorem VAnw.of {w w':World} {v:Value} {xs:List Vr} {base:Nat} (hb:Below w.heap.size w w') (hl:w.heap.size≤base) (h:w'.ownsRow base 179 4 v xs.length (vbw xs)):VAnw xs.length (fun i=>xs.getD i zV) w (.returned v) w':=by
  obtain ⟨a,cap,rfl,hcap⟩:=row_slicew h;exact ⟨a,cap,rfl,hb,(own4_of_roww rfl h).wide hl (Nat.le_refl _) (Nat.le_refl _),hcap⟩
theorem vL_getDw {R:Nat→Vr} {n i:Nat} (h:i<n):(vLw R n).getD i zV=R i:=by rw [List.getD_eq_getElem?_getD,vL_getw h];rfl
theorem l5Copy_anyw (n:Nat) (R:Nat→Vr) (a:Option Addr) (cap:Nat) (w:World) (hn:n≤100000) (h:VersAt w a n R) :
    Calls Tryz.prog 139 #[.slice a n cap] w (VAnw n R w):=by
  have HA:Hid (∀o:Obj,VersAt (w.alloc o) a n R):=fun o=>h.below (below_new _ _);have HO:Hid ((w.alloc (.cells #[] 179)).ownsRow w.heap.size 179 4 (.slice (some ⟨w.heap.size,0,none⟩) 0 0) 0 []):=World.ownsRow_made w #[] 0 (Nat.le_refl _) (by unfold maxLen;omega) rfl;clear h;go_enter Tryz.func139,Tryz.ntmps139;go_wp2_with (at_builtin;refine wpList_appVw _ rfl (.tmp 3) (.tmp 4) rfl w.heap.size _ [] rfl HO.out a n cap R rfl (HA.out _) (by simpa using hn) (by simp) ?_);intro v1 w1 ho1 hg1;have HB1:Hid (Below w.heap.size w w1):=(below_new w _).grown hg1 (by simp) (fun q hq=>(HO.out.lt q hq).1)
  have HO1:Hid (VAnw n R w (.returned v1) w1):=by
    obtain ⟨a',cap',h1,h2,h3,h4⟩:=VAnw.of HB1.out (Nat.le_refl _) ho1;rw [vL_lenw] at h1 h3 h4;exact ⟨a',cap',h1,h2,h3.congr (fun i hi=>vL_getDw hi),h4⟩
  clear ho1 hg1;go_wp2_with fail;go_ret;exact HO1.out
def jvw (N:Nat→Nat) (Z:Nat→Nat→Vr):Nat→List Vr
  | 0=>[]
  | k+1=>jvw N Z k ++ vLw (Z k) (N k)
theorem jv_lenw (N:Nat→Nat) (Z:Nat→Nat→Vr):∀k,(∀i,i<k→N i≤100)→(jvw N Z k).length≤k*100
  | 0,_=>by simp [jvw]
  | k+1,h=>by
    have h1:=jv_lenw N Z k (fun i hi=>h i (by omega));have h2:=h k (by omega);simp only [jvw,List.length_append,vL_lenw];omega
set_option maxHeartbeats 2000000 in
theorem joined_anyw (m:Nat) (A:Nat→Option Addr) (N C:Nat→Nat) (Z:Nat→Nat→Vr) (pb po pc:Nat) (w:World) (hs:∀i,i<m→N i≤100) (hpb:pb<w.heap.size)
    (hp:∀i,i<m→w.cell? ⟨pb,po+i,none⟩=some (.slice (A i) (N i) (C i))∧VersAt w (A i) (N i) (Z i)) (hm:m≤3) :
    Calls Tryz.prog 157 #[.slice (some ⟨pb,po,none⟩) m pc] w (VAnw (jvw N Z m).length (fun i=>(jvw N Z m).getD i zV) w):=by
  have HP:Hid (∀i,i<m→w.cell? ⟨pb,po+i,none⟩=some (.slice (A i) (N i) (C i))∧VersAt w (A i) (N i) (Z i)):=hp;clear hp;go_enter Tryz.func157,Tryz.ntmps157;go_wp2_with fail;go_loopw [3,5,8] (fun v _ i wr=>∃k:Nat,k≤m∧i=.int .i64 k∧Hid (Below w.heap.size w wr)∧Hid (wr.ownsRow w.heap.size 179 4 v (jvw N Z k).length (vbw (jvw N Z k)))) (fun _ _ i _=>m-(intOf i).toNat)
  case atStart=>exact ⟨0,by omega,rfl,Below.refl _ _,World.ownsRow_nil _ _ _ _⟩
  case round=>
    obtain ⟨k,hk,rfl,HB,HO⟩:=hrel
    by_cases hlt:k<m
    · have hlt':(k:Int)<(m:Int):=by omega
      have hk1:(0:Int)≤(k:Int):=(by omega);have hc:=cell_below (HP.out k hlt).1 HB.out;have HBA:Hid (VersAt wr (A k) (N k) (Z k)):=(HP.out k hlt).2.below HB.out
      have HLE:Hid ((jvw N Z k).length+N k≤100000):=by
        have h1:=jv_lenw N Z k (fun i hi=>hs i (by omega));have h2:=hs k hlt;show (jvw N Z k).length+N k≤100000;omega
      go_wp2_with (at_builtin;refine wpList_appVw _ rfl (.tmp 12) (.tmp 13) rfl w.heap.size _ (jvw N Z k) rfl HO.out (A k) (N k) (C k) (Z k) rfl HBA.out HLE.out HB.out.size ?_);intro v1 w1 ho1 hg1
      have HO1:Hid (w1.ownsRow w.heap.size 179 4 v1 (jvw N Z (k+1)).length (vbw (jvw N Z (k+1)))):=by
        show w1.ownsRow w.heap.size 179 4 v1 (jvw N Z k ++ vLw (Z k) (N k)).length (vbw (jvw N Z k ++ vLw (Z k) (N k)));rw [List.length_append];exact ho1
      have HB1:Hid (Below w.heap.size w w1):=HB.out.grown hg1 HB.out.size (fun q hq=>(HO.out.lt q hq).1);clear ho1 hg1;go_wp2_with fail;go_roundw
      case rel=>exact ⟨k+1,hlt,by go_num,HB1,HO1⟩
      case measure=>simp [intOf];omega
    · have hkn:k=m:=by omega
      subst hkn;have HF:=VAnw.of HB.out (Nat.le_refl _) HO.out;go_wp2_with fail;go_ret;exact HF
theorem joined1_anyw (n:Nat) (R:Nat→Vr) (a:Option Addr) (cap:Nat) (pb:Nat) (w:World) (hn:n≤100) (hc:w.cell? ⟨pb,0,none⟩=some (.slice a n cap)) (h:VersAt w a n R) :
    Calls Tryz.prog 157 #[.slice (some ⟨pb,0,none⟩) 1 1] w (VAnw n R w):=by
  have hp:∀i,i<1→w.cell? ⟨pb,0+i,none⟩=some (.slice a n cap)∧VersAt w a n R:=by
    intro i hi;have e:i=0:=(by omega);subst e;exact ⟨hc,h⟩
  refine (joined_anyw 1 (fun _=>a) (fun _=>n) (fun _=>cap) (fun _=>R) pb 0 1 w (fun i hi=>hn) (Go.block_lt_of_cell hc) hp (by omega)).mono ?_;rintro e w' ⟨a',cap',he,hb,ho,hcap⟩;have el:(jvw (fun _=>n) (fun _=>R) 1).length=n:=(by simp [jvw,vL_lenw]);rw [el] at he ho hcap;refine ⟨a',cap',he,hb,ho.congr (fun i hi=>?_),hcap⟩;simp only [jvw,List.nil_append];exact vL_getDw hi
theorem grown_writes {w w':World} {r:Option Nat} {M:Nat} (hg:w.grownBy w' r) (h:∀q,r=some q→M≤q):Writes M w.heap.size w w':=
  ⟨hg.os,hg.tape,hg.output,hg.size,fun k hk hd=>hg.block k hk fun e=>by have:=h k e.symm;omega⟩
structure CpE (w wr:World) (a:Option Addr) (cap:Nat) (a':Option Addr) (cap':Nat) (E:En) (v v':Value):Prop where
  below:Below w.heap.size w wr
  hsz:w.heap.size+3≤wr.heap.size
  e:Box4 wr w.heap.size (.int .i64 E.nx) (.int .i64 E.ck) (.slice a E.p cap) (.slice a' E.q cap')
  r:Box4 wr (w.heap.size+1) (.int .i64 0) (.int .i64 0) (.slice none 0 0) (.slice none 0 0)
  rf:∀o,wr.frozen? ⟨w.heap.size+1,o,none⟩=false
  b:Box4 wr (w.heap.size+2) (.int .i64 E.nx) (.int .i64 E.ck) v v'
  bf:∀o,wr.frozen? ⟨w.heap.size+2,o,none⟩=false
theorem CpE.far {w wr w2:World} {a:Option Addr} {cap:Nat} {a':Option Addr} {cap':Nat} {E:En} {v v':Value} {lo hi:Nat} (h:CpE w wr a cap a' cap' E v v') (hw:Writes lo hi wr w2) (hlo:w.heap.size+3≤lo):CpE w w2 a cap a' cap' E v v':=by
  have hs:=h.hsz;have f:∀b o,b<w.heap.size+3→w2.frozen? ⟨b,o,none⟩=wr.frozen? ⟨b,o,none⟩:=fun b o hb=>World.frozen?_of_block (w:=wr) (a:=⟨b,o,none⟩) (hw.block b (by omega) (by omega));exact ⟨Writes.below h.below hw (by omega),Nat.le_trans hs hw.size,h.e.writes hw (by omega),h.r.writes hw (by omega),fun o=>(f _ _ (by omega)).trans (h.rf o),h.b.writes hw (by omega),fun o=>(f _ _ (by omega)).trans (h.bf o)⟩
theorem CpE.mono {w wr w2:World} {a:Option Addr} {cap:Nat} {a':Option Addr} {cap':Nat} {E:En} {v v':Value} (h:CpE w wr a cap a' cap' E v v') (hb:Below wr.heap.size wr w2):CpE w w2 a cap a' cap' E v v':=
  h.far (Writes.of_below (lo:=wr.heap.size) (hi:=wr.heap.size) hb) h.hsz
theorem CpE.setT {w wr:World} {a:Option Addr} {cap:Nat} {a':Option Addr} {cap':Nat} {E:En} {v v':Value} (h:CpE w wr a cap a' cap' E v v') (v2:Value):CpE w (wr.setCell ⟨w.heap.size+2,2,none⟩ v2) a cap a' cap' E v2 v':=by
  have hs:=h.hsz;have hw:Writes (w.heap.size+2) (w.heap.size+3) wr (wr.setCell ⟨w.heap.size+2,2,none⟩ v2):=Writes.setCell (Writes.refl _ _ _) (p:=⟨w.heap.size+2,2,none⟩) (Nat.le_refl _) (Nat.lt_succ_self _) _;obtain ⟨c0,c1,c2,c3⟩:=h.b;exact ⟨Writes.below h.below hw (by omega),Nat.le_trans hs hw.size,h.e.writes hw (by omega),h.r.writes hw (by omega),fun o=>by rw [World.frozen?_setCell];exact h.rf o,⟨(setO (by omega)).trans c0,(setO (by omega)).trans c1,setS c2,(setO (by omega)).trans c3⟩,fun o=>by rw [World.frozen?_setCell];exact h.bf o⟩
theorem CpE.setR {w wr:World} {a:Option Addr} {cap:Nat} {a':Option Addr} {cap':Nat} {E:En} {v v':Value} (h:CpE w wr a cap a' cap' E v v') (v2:Value):CpE w (wr.setCell ⟨w.heap.size+2,3,none⟩ v2) a cap a' cap' E v v2:=by
  have hs:=h.hsz;have hw:Writes (w.heap.size+2) (w.heap.size+3) wr (wr.setCell ⟨w.heap.size+2,3,none⟩ v2):=Writes.setCell (Writes.refl _ _ _) (p:=⟨w.heap.size+2,3,none⟩) (Nat.le_refl _) (Nat.lt_succ_self _) _;obtain ⟨c0,c1,c2,c3⟩:=h.b;exact ⟨Writes.below h.below hw (by omega),Nat.le_trans hs hw.size,h.e.writes hw (by omega),h.r.writes hw (by omega),fun o=>by rw [World.frozen?_setCell];exact h.rf o,⟨(setO (by omega)).trans c0,(setO (by omega)).trans c1,(setO (by omega)).trans c2,setS c3⟩,fun o=>by rw [World.frozen?_setCell];exact h.bf o⟩
def CAns (E:En) (w:World) (e:Ending) (w':World):Prop:=∃v v' b0 M,e=.returned (.agg #[.int .i64 E.nx,.int .i64 E.ck,v,v'])∧Below w.heap.size w w'∧w.heap.size≤b0∧b0≤M∧GrTx b0 M w' v E.p E.T∧GrRw M w'.heap.size w' v' E.q E.R
theorem lit_tx {w0:World} {X:Nat} {ai:Option Addr} {ci:Nat} (t:Tx) (hX:w0.heap.size=X) :
    CTx (w0.alloc (.cells #[.int .i64 t.id,.int .i64 t.am,.int .i64 t.st,.int .i64 t.dn,.slice ai t.n ci] 127)) X 0 t ai ci:=by
  subst hX;exact ⟨by simp [go_sem],by simp [go_sem],by simp [go_sem],by simp [go_sem],by simp [go_sem]⟩
theorem lit_rw {w0:World} {X:Nat} {ai:Option Addr} {ci:Nat} (t:Rw) (hX:w0.heap.size=X) :
    CRw (w0.alloc (.cells #[.int .i64 t.key,.slice ai t.n ci] 173)) X 0 t ai ci:=by
  subst hX;exact ⟨by simp [go_sem],by simp [go_sem]⟩
set_option maxHeartbeats 8000000 in
theorem copyEngine_any (E:En) (a:Option Addr) (cap:Nat) (a':Option Addr) (cap':Nat) (w:World) (hp:E.p≤20) (hq:E.q≤32) (ht:∀i,i<E.p→(E.T i).n≤60) (hr:∀i,i<E.q→(E.R i).n≤12) (h:EngAt w a a' E) :
    Calls Tryz.prog 81 #[.agg #[.int .i64 E.nx,.int .i64 E.ck,.slice a E.p cap,.slice a' E.q cap']] w (CAns E w):=by
  have HX:Hid (EngAt w a a' E):=h;have HT:Hid (∀i,i<E.p→(E.T i).n≤60):=ht;have HR:Hid (∀i,i<E.q→(E.R i).n≤12):=hr;clear h ht hr
  have HI:Hid (∀o1 o2 o3:Obj,o1=.cells #[.int .i64 E.nx,.int .i64 E.ck,.slice a E.p cap,.slice a' E.q cap'] 30→o2=.cells #[.int .i64 0,.int .i64 0,.slice none 0 0,.slice none 0 0] 30→o3=.cells #[.int .i64 E.nx,.int .i64 E.ck,.slice none 0 0,.slice none 0 0] 30→CpE w (((w.alloc o1).alloc o2).alloc o3) a cap a' cap' E (.slice none 0 0) (.slice none 0 0)):=by
    rintro o1 o2 o3 rfl rfl rfl;refine ⟨(((Below.refl _ _).alloc (Nat.le_refl _) _).alloc (by simp) _).alloc (by simp;omega) _,by simp,((Box4.new w _ _ _ _ _).alloc _).alloc _,?_,fun o=>by simp [go_sem],by simp [Box4,go_sem],fun o=>by simp [go_sem]⟩;have h:=(Box4.new (w.alloc (.cells #[.int .i64 E.nx,.int .i64 E.ck,.slice a E.p cap,.slice a' E.q cap'] 30)) (.int .i64 0) (.int .i64 0) (.slice none 0 0) (.slice none 0 0) 30).alloc (.cells #[.int .i64 E.nx,.int .i64 E.ck,.slice none 0 0,.slice none 0 0] 30);rw [World.size_alloc] at h;exact h
  go_enter Tryz.func81,Tryz.ntmps81;go_wp2_with fail;go_loopw [5,16] (fun _ i wr=>∃k:Nat,∃v,k≤E.p∧i=.int .i64 k∧Hid (CpE w wr a cap a' cap' E v (.slice none 0 0))∧Hid (GrTx (w.heap.size+3) wr.heap.size wr v k E.T)) (fun _ i _=>E.p-(intOf i).toNat)
  case atStart=>exact ⟨0,.slice none 0 0,Nat.zero_le _,rfl,HI.out _ _ _ rfl rfl rfl,GrTx.nil _ _ _⟩
  case round=>
    obtain ⟨k,v,hk,rfl,HC,HG⟩:=hrel;have hsz:=HC.out.hsz
    by_cases hlt:k<E.p
    · have hlt':(k:Int)<(E.p:Int):=by omega
      have hk0:(0:Int)≤(k:Int):=(by omega)
      rcases HX.out.1.below HC.out.below with h | ⟨bb,off,rfl,hl,hcc⟩
      · omega
      obtain ⟨ai,ci,⟨x0,x1,x2,x3,x4⟩,hun,-⟩:=hcc k hlt;have HUN:Hid (UndsAt wr ai (E.T k).n (E.T k).U):=hun;have HN:Hid ((E.T k).n≤60):=HT.out k hlt;clear hcc hun HI;go_wp2_with fail
      have HSW:Hid (∀o1 o2:Obj,((wr.alloc o1).alloc o2).heap.size=wr.heap.size+1+1):=fun _ _=>by simp
      refine (joined1U_any (E.T k).n (E.T k).U ai ci (wr.heap.size+1) _ (by have:=HN.out;omega) (by simp [go_sem]) ((HUN.out.below (below_new _ _)).below (below_new _ _))).mono ?_;rintro e w2 ⟨a2,c2,rfl,hb2,ho2,hc2⟩;rw [HSW.out] at ho2;obtain ⟨hcz,hfz⟩:=bcell2 hb2;have t0:w2.cell? ⟨wr.heap.size,0,none⟩=some (.int .i64 (E.T k).id):=(by rw [hcz _ _ (by simp <;> omega)];simp [go_sem]);have t1:w2.cell? ⟨wr.heap.size,1,none⟩=some (.int .i64 (E.T k).am):=(by rw [hcz _ _ (by simp <;> omega)];simp [go_sem]);have t2:w2.cell? ⟨wr.heap.size,2,none⟩=some (.int .i64 (E.T k).st):=(by rw [hcz _ _ (by simp <;> omega)];simp [go_sem]);have t3:w2.cell? ⟨wr.heap.size,3,none⟩=some (.int .i64 (E.T k).dn):=(by rw [hcz _ _ (by simp <;> omega)];simp [go_sem]);have t4:w2.cell? ⟨wr.heap.size,4,none⟩=some (.slice ai (E.T k).n ci):=(by rw [hcz _ _ (by simp <;> omega)];simp [go_sem])
      have tf:∀i,w2.frozen? ⟨wr.heap.size,i,none⟩=false:=fun i=>by rw [hfz _ _ (by simp <;> omega)];simp [go_sem]
      have HB2:Hid (Below wr.heap.size wr w2):=below_then (((Below.refl _ _).alloc (Nat.le_refl _) _)) (below_then (below_new _ _) hb2);have HO2:Hid (OwnUC w2 (wr.heap.size+1+1) w2.heap.size a2 c2 (E.T k).n (E.T k).U):=ho2;have HC2c:Hid ((E.T k).n≤c2):=hc2;have hs2:wr.heap.size+2≤w2.heap.size:=(by have:=hb2.size;rw [HSW.out] at this;omega);have hwS:Writes wr.heap.size (wr.heap.size+1) w2 (w2.setCell ⟨wr.heap.size,4,none⟩ (.slice a2 (E.T k).n c2)):=Writes.setCell (Writes.refl _ _ _) (p:=⟨wr.heap.size,4,none⟩) (Nat.le_refl _) (Nat.lt_succ_self _) _;have hzS:(w2.setCell ⟨wr.heap.size,4,none⟩ (.slice a2 (E.T k).n c2)).heap.size=w2.heap.size:=(by simp [World.setCell]);have HCS:Hid (∀o:Obj,CpE w ((w2.setCell ⟨wr.heap.size,4,none⟩ (.slice a2 (E.T k).n c2)).alloc o) (some ⟨bb,off,none⟩) cap a' cap' E v (.slice none 0 0)):=fun o=>((HC.out.mono HB2.out).far hwS hsz).mono (below_new _ _);have HGS:Hid (∀o:Obj,GrTx (w.heap.size+3) wr.heap.size ((w2.setCell ⟨wr.heap.size,4,none⟩ (.slice a2 (E.T k).n c2)).alloc o) v k E.T):=fun o=>((HG.out.below HB2.out).writes hwS (.inr (Nat.le_refl _))).below (below_new _ _);have HOS:Hid (∀o:Obj,OwnUC ((w2.setCell ⟨wr.heap.size,4,none⟩ (.slice a2 (E.T k).n c2)).alloc o) (wr.heap.size+1+1) w2.heap.size a2 c2 (E.T k).n (E.T k).U):=fun o=>(HO2.out.writes hwS (.inr (by omega))).below (below_new _ _);have HZS:Hid ((w2.setCell ⟨wr.heap.size,4,none⟩ (.slice a2 (E.T k).n c2)).heap.size=w2.heap.size):=hzS;have bb2:(w2.setCell ⟨wr.heap.size,4,none⟩ (.slice a2 (E.T k).n c2)).cell? ⟨w.heap.size+2,2,none⟩=some v:=((HC.out.mono HB2.out).far hwS hsz).b.2.2.1
      have hvg:Hid (∀q,v.ownBlock=some q→w.heap.size+3≤q):=fun q hq=>by
        obtain ⟨_,_,_,_,_,ho,_⟩:=HG.out;exact (ho.lt q hq).1
      clear hcz hfz hb2 ho2 hc2 hwS hzS HSW x0 x1 x2 x3 x4 HUN HC HG HB2 HO2;go_wp2_with (at_builtin;refine wpList_grTx _ rfl (.tmp 26) (.tmp 28) rfl (w.heap.size+3) wr.heap.size v k E.T rfl (HGS.out _) w2.heap.size 0 1 (E.T k) a2 c2 (wr.heap.size+1+1) w2.heap.size rfl (lit_tx (E.T k) HZS.out) (.inr ⟨by omega,by rw [World.size_alloc,HZS.out];omega⟩) (by omega) HC2c.out (HOS.out _) (by omega) ?_);intro g cap2 w3 hgr hg;have hcp:=(HCS.out _).far (grown_writes hg hvg.out) (Nat.le_refl _);obtain ⟨-,-,c22,-⟩:=hcp.b;have cf2:=hcp.bf;have HC3:Hid (CpE w (w3.setCell ⟨w.heap.size+2,2,none⟩ (.slice (some ⟨g,0,none⟩) (k+1) cap2)) (some ⟨bb,off,none⟩) cap a' cap' E (.slice (some ⟨g,0,none⟩) (k+1) cap2) (.slice none 0 0)):=hcp.setT _
      have HG3:Hid (GrTx (w.heap.size+3) (w3.setCell ⟨w.heap.size+2,2,none⟩ (.slice (some ⟨g,0,none⟩) (k+1) cap2)).heap.size (w3.setCell ⟨w.heap.size+2,2,none⟩ (.slice (some ⟨g,0,none⟩) (k+1) cap2)) (.slice (some ⟨g,0,none⟩) (k+1) cap2) (k+1) E.T):=by
        have hz:(w3.setCell ⟨w.heap.size+2,2,none⟩ (.slice (some ⟨g,0,none⟩) (k+1) cap2)).heap.size=w3.heap.size:=(by simp [World.setCell]);show GrTx _ _ _ _ _ _;rw [hz];refine GrTx.congr (hgr.writes (Writes.setCell (Writes.refl (w.heap.size+2) (w.heap.size+3) _) (p:=⟨w.heap.size+2,2,none⟩) (Nat.le_refl _) (Nat.lt_succ_self _) _) (.inl (Nat.le_refl _))) fun i hi=>?_
        by_cases e:i=k
        · subst e;exact upf_eq _ _ _
        · exact upf_ne _ _ e
      clear hcp hgr hg HCS HGS HOS HZS t0 t1 t2 t3 t4 tf bb2 hvg;go_wp2_with fail;go_roundw
      case rel=>exact ⟨k+1,_,hlt,by go_num,HC3,HG3⟩
      case measure=>simp [intOf];omega
    · have hkn:k=E.p:=by omega
      have hnl:¬((k:Int)<(E.p:Int)):=(by omega);have HG1:Hid (GrTx (w.heap.size+3) wr.heap.size wr v E.p E.T):=(by rw [hkn] at HG;exact HG);obtain ⟨b0,b1,b2,b3⟩:=HC.out.e;clear HG HI;go_wp2_with fail;clear b0 b1 b2 b3;obtain ⟨w1,rfl⟩:∃x,x=wr:=⟨wr,rfl⟩;go_loopw [7,35] (fun _ i wy=>∃k:Nat,∃v',k≤E.q∧i=.int .i64 k∧Hid (CpE w wy a cap a' cap' E v v')∧Hid (GrTx (w.heap.size+3) w1.heap.size wy v E.p E.T)∧Hid (GrRw w1.heap.size wy.heap.size wy v' k E.R)) (fun _ i _=>E.q-(intOf i).toNat)
      case atStart=>exact ⟨0,.slice none 0 0,Nat.zero_le _,rfl,HC,HG1,GrRw.nil _ _ _⟩
      case round=>
        clear hk hkn hnl hlt HC HG1;obtain ⟨d,v',hk,rfl,HC,HG1,HG⟩:=hrel;have hM:w.heap.size+3≤w1.heap.size:=hsz;have hsz2:=HC.out.hsz;have hMw:w1.heap.size≤wr.heap.size:=HG1.out.1
        by_cases hlt:d<E.q
        · have hlt':(d:Int)<(E.q:Int):=by omega
          have hk0:(0:Int)≤(d:Int):=(by omega)
          rcases HX.out.2.below HC.out.below with h | ⟨bb,off,rfl,hl,hcc⟩
          · omega
          obtain ⟨ai,ci,⟨x0,x1⟩,hun,-⟩:=hcc d hlt;have HUN:Hid (VersAt wr ai (E.R d).n (E.R d).U):=hun;have HN:Hid ((E.R d).n≤12):=HR.out d hlt;clear hcc hun;go_wp2_with fail
          have HSW:Hid (∀o1 o2:Obj,((wr.alloc o1).alloc o2).heap.size=wr.heap.size+1+1):=fun _ _=>by simp
          refine (joined1_anyw (E.R d).n (E.R d).U ai ci (wr.heap.size+1) _ (by have:=HN.out;omega) (by simp [go_sem]) ((HUN.out.below (below_new _ _)).below (below_new _ _))).mono ?_;rintro e w2 ⟨a2,c2,rfl,hb2,ho2,hc2⟩;rw [HSW.out] at ho2;obtain ⟨hcz,hfz⟩:=bcell2 hb2;have t0:w2.cell? ⟨wr.heap.size,0,none⟩=some (.int .i64 (E.R d).key):=(by rw [hcz _ _ (by simp <;> omega)];simp [go_sem]);have t1:w2.cell? ⟨wr.heap.size,1,none⟩=some (.slice ai (E.R d).n ci):=(by rw [hcz _ _ (by simp <;> omega)];simp [go_sem])
          have tf:∀i,w2.frozen? ⟨wr.heap.size,i,none⟩=false:=fun i=>by rw [hfz _ _ (by simp <;> omega)];simp [go_sem]
          have HB2:Hid (Below wr.heap.size wr w2):=below_then (((Below.refl _ _).alloc (Nat.le_refl _) _)) (below_then (below_new _ _) hb2);have HO2:Hid (Own4 w2 (wr.heap.size+1+1) w2.heap.size a2 (E.R d).n (E.R d).U):=ho2;have HC2c:Hid ((E.R d).n≤c2):=hc2;have hs2:wr.heap.size+2≤w2.heap.size:=(by have:=hb2.size;rw [HSW.out] at this;omega);have hwS:Writes wr.heap.size (wr.heap.size+1) w2 (w2.setCell ⟨wr.heap.size,1,none⟩ (.slice a2 (E.R d).n c2)):=Writes.setCell (Writes.refl _ _ _) (p:=⟨wr.heap.size,1,none⟩) (Nat.le_refl _) (Nat.lt_succ_self _) _;have hzS:(w2.setCell ⟨wr.heap.size,1,none⟩ (.slice a2 (E.R d).n c2)).heap.size=w2.heap.size:=(by simp [World.setCell]);have HCS:Hid (∀o:Obj,CpE w ((w2.setCell ⟨wr.heap.size,1,none⟩ (.slice a2 (E.R d).n c2)).alloc o) a cap (some ⟨bb,off,none⟩) cap' E v v'):=fun o=>((HC.out.mono HB2.out).far hwS hsz2).mono (below_new _ _);have HGT:Hid (∀o:Obj,GrTx (w.heap.size+3) w1.heap.size ((w2.setCell ⟨wr.heap.size,1,none⟩ (.slice a2 (E.R d).n c2)).alloc o) v E.p E.T):=fun o=>((HG1.out.below HB2.out).writes hwS (.inr hMw)).below (below_new _ _);have HGS:Hid (∀o:Obj,GrRw w1.heap.size wr.heap.size ((w2.setCell ⟨wr.heap.size,1,none⟩ (.slice a2 (E.R d).n c2)).alloc o) v' d E.R):=fun o=>((HG.out.below HB2.out).writes hwS (.inr (Nat.le_refl _))).below (below_new _ _);have HOS:Hid (∀o:Obj,Own4 ((w2.setCell ⟨wr.heap.size,1,none⟩ (.slice a2 (E.R d).n c2)).alloc o) (wr.heap.size+1+1) w2.heap.size a2 (E.R d).n (E.R d).U):=fun o=>(HO2.out.writes hwS (.inr (by omega))).below (below_new _ _);have HZS:Hid ((w2.setCell ⟨wr.heap.size,1,none⟩ (.slice a2 (E.R d).n c2)).heap.size=w2.heap.size):=hzS;have bb2:(w2.setCell ⟨wr.heap.size,1,none⟩ (.slice a2 (E.R d).n c2)).cell? ⟨w.heap.size+2,3,none⟩=some v':=((HC.out.mono HB2.out).far hwS hsz2).b.2.2.2
          have hvg:Hid (∀q,v'.ownBlock=some q→w1.heap.size≤q):=fun q hq=>by
            obtain ⟨_,_,_,_,_,ho,_⟩:=HG.out;exact (ho.lt q hq).1
          clear hcz hfz hb2 ho2 hc2 hwS hzS HSW x0 x1 HUN HC HG HG1 HB2 HO2;go_wp2_with (at_builtin;refine wpList_grRw _ rfl (.tmp 45) (.tmp 47) rfl w1.heap.size wr.heap.size v' d E.R rfl (HGS.out _) w2.heap.size 0 1 (E.R d) a2 c2 (wr.heap.size+1+1) w2.heap.size rfl (lit_rw (E.R d) HZS.out) (.inr ⟨by omega,by rw [World.size_alloc,HZS.out];omega⟩) (by omega) HC2c.out (HOS.out _) (by omega) ?_);intro g cap2 w3 hgr hg;have hwg:=grown_writes hg hvg.out;have hcp:=(HCS.out _).far hwg hM;obtain ⟨-,-,-,c22⟩:=hcp.b;have cf2:=hcp.bf;have hwF:Writes (w.heap.size+2) (w.heap.size+3) w3 (w3.setCell ⟨w.heap.size+2,3,none⟩ (.slice (some ⟨g,0,none⟩) (d+1) cap2)):=Writes.setCell (Writes.refl (w.heap.size+2) (w.heap.size+3) _) (p:=⟨w.heap.size+2,3,none⟩) (Nat.le_refl _) (Nat.lt_succ_self _) _;have HC3:Hid (CpE w (w3.setCell ⟨w.heap.size+2,3,none⟩ (.slice (some ⟨g,0,none⟩) (d+1) cap2)) a cap (some ⟨bb,off,none⟩) cap' E v (.slice (some ⟨g,0,none⟩) (d+1) cap2)):=hcp.setR _;have HGT3:Hid (GrTx (w.heap.size+3) w1.heap.size (w3.setCell ⟨w.heap.size+2,3,none⟩ (.slice (some ⟨g,0,none⟩) (d+1) cap2)) v E.p E.T):=((HGT.out _).writes hwg (.inr (Nat.le_refl _))).writes hwF (.inl (Nat.le_refl _))
          have HG3:Hid (GrRw w1.heap.size (w3.setCell ⟨w.heap.size+2,3,none⟩ (.slice (some ⟨g,0,none⟩) (d+1) cap2)).heap.size (w3.setCell ⟨w.heap.size+2,3,none⟩ (.slice (some ⟨g,0,none⟩) (d+1) cap2)) (.slice (some ⟨g,0,none⟩) (d+1) cap2) (d+1) E.R):=by
            have hz:(w3.setCell ⟨w.heap.size+2,3,none⟩ (.slice (some ⟨g,0,none⟩) (d+1) cap2)).heap.size=w3.heap.size:=(by simp [World.setCell]);show GrRw _ _ _ _ _ _;rw [hz];refine GrRw.congr (hgr.writes hwF (.inl hM)) fun i hi=>?_
            by_cases e:i=d
            · subst e;exact upf_eq _ _ _
            · exact upf_ne _ _ e
          clear hcp hgr hg HCS HGS HOS HZS HGT t0 t1 tf bb2 hvg hwg hwF;go_wp2_with fail;go_roundw
          case rel=>exact ⟨d+1,_,hlt,by go_num,HC3,HGT3,HG3⟩
          case measure=>simp [intOf];omega
        · have hkn:d=E.q:=by omega
          subst hkn;have hnl:¬((E.q:Int)<(E.q:Int)):=(by omega);obtain ⟨va,vc,rfl,-,-⟩:=HG1.out.own;obtain ⟨va',vc',rfl,-,-⟩:=HG.out.own;obtain ⟨b0,b1,b2,b3⟩:=HC.out.b;obtain ⟨r0,r1,r2,r3⟩:=HC.out.r;have rf:=HC.out.rf;have HBF:=HC.out.below
          have HF:Hid (∀w7,Writes (w.heap.size+1) (w.heap.size+2) wr w7→w7.heap.size=wr.heap.size→CAns E w (.returned (.agg #[.int .i64 E.nx,.int .i64 E.ck,.slice va E.p vc,.slice va' E.q vc'])) w7):=fun w7 hw hs=>by
            refine ⟨_,_,w.heap.size+3,w1.heap.size,rfl,Writes.below HBF hw (by omega),by omega,hM,HG1.out.writes hw (.inl (by omega)),?_⟩;rw [hs];exact HG.out.writes hw (.inl (by omega))
          clear HC HG HG1 HBF;go_wp2_with fail;refine bodyPost_ret (v:=.agg #[.int .i64 E.nx,.int .i64 E.ck,.slice va E.p vc,.slice va' E.q vc']) (by simp [results,Tryz.results81,go_sem, *]) rfl ?_;refine HF.out _ ?_ (by simp [World.setCell])
          repeat (first | with_reducible exact Writes.refl _ _ _ | with_reducible refine Writes.setCell ?_ (by first | omega | (simp <;> omega)) (by first | omega | (simp <;> omega)) _)
theorem szCellS_any (n:Nat) (a:Option Addr) (cap:Nat) (w:World) (hn:n≤9223372036854775807) :
    Calls Tryz.prog 26 #[.slice a n cap,.int .i64 1048576] w fun e w'=>e=.returned (.int .i64 (if n≤1048576 then 1048576-n else -1))∧w'=w:=by
  by_cases h:n≤1048576
  · rw [if_pos h];go_enter Tryz.func26,Tryz.ntmps26;go_wp2;go_ret;exact ⟨rfl,rfl⟩
  · rw [if_neg h];go_enter Tryz.func26,Tryz.ntmps26;go_wp2;go_ret;exact ⟨rfl,rfl⟩
theorem toCellS_own (n:Nat) (K V:Nat→Int) (a:Option Addr) (cap:Nat) (w:World) (hn:n≤1048576) (h:CellsAt w a n K V) :
    Calls Tryz.prog 29 #[.slice a n cap] w fun e w'=>∃b,e=.returned (.slice (some ⟨b,0,none⟩) n n)∧Below w.heap.size w w'∧Own w' w.heap.size w'.heap.size (some ⟨b,0,none⟩) n K V:=by
  refine (toCellS_any n K V a cap w (by omega) h).mono ?_;rintro e w' ⟨rfl,hb,hr⟩;exact ⟨_,rfl,hb,(Own.of_row hr).wide (Nat.le_refl _) hr.lt (Nat.le_refl _)⟩
theorem cellsCell:Tryz.prog.cellsOf 140=2:=by kernel_rfl
theorem openCells {H:Type} {enc:TypeId × Value→H} {W:World} {fuel:Nat} {cs:List Value} {x:DataW H × List MemPlace}
    (h:DataW.trod enc Tryz.prog W 0 (fun _=>true) true fuel 55 cs=some x) :
    ∃(a:Option Addr) (n cap:Nat) (K V:Nat→Int),cs=[.slice a n cap]∧n≤9223372036854775807∧CellsAt W a n K V:=by
  rcases open_slice Tryz.underlying55 h with ⟨rfl,_⟩ | ⟨a,l,c,m,nn,D,Pl,rfl,_,hl,hm,hmm,_,hx⟩
  · exact ⟨none,0,0,fun _=>0,fun _=>0,rfl,by omega,.inl rfl⟩
  · have hmc:m=c:=by simpa using hmm
    unfold maxLen at hm;rw [cellsCell] at hx
    have each:∀i,i<l→∃q:Int × Int,W.cell? (a.add (i*2))=some (.int .i64 q.1)∧W.cell? (a.add (i*2+1))=some (.int .i64 q.2):=fun i hi=>by
      obtain ⟨cs',h1,h2⟩:=hx i (by omega);obtain ⟨_,hlen,hcell⟩:=World.cells?_some h1;obtain ⟨xs,k,hk,hxy,_,hxl,hf⟩:=DataW.trod_struct Tryz.underlying140 h2
      match xs,hxl,cs',hlen with
      | [y0,y1],_,[v0,v1],_=>
        have g0:=hf 0 _ rfl;have g1:=hf 1 _ rfl;simp [cellsI] at g0 g1;have e0:=hcell 0 (by omega);have e1:=hcell 1 (by omega);rw [add_add] at e0 e1;obtain ⟨z0,f0,_,_⟩:=DataW.trod_int Tryz.underlying2 g0;obtain ⟨z1,f1,_,_⟩:=DataW.trod_int Tryz.underlying2 g1;simp at f0 f1;subst f0 f1;exact ⟨(z0,z1),by simpa using e0,by simpa using e1⟩
    obtain ⟨q,hq⟩:=choose_lt each;refine ⟨some a,l,c,fun i=>(q i).1,fun i=>(q i).2,rfl,by omega,?_⟩
    by_cases hz0:l=0
    · exact .inl hz0
    · obtain ⟨b,off,spot⟩:=a;have hc0:=(hq 0 (by omega)).1;have hspot:spot=none:=(by simpa [Addr.add] using World.cell?_spot hc0);subst hspot;refine .inr ⟨b,off,rfl,Go.block_lt_of_cell hc0,fun i hi=>?_,fun i hi=>?_⟩
      · have k0:=(hq i hi).1;rw [add_plain] at k0;exact k0
      · have k1:=(hq i hi).2;rw [add_plain] at k1;rw [Nat.add_assoc];exact k1
def Box6 (w:World) (B:Nat) (c0 c1 c2 c3 c4 c5:Value):Prop:=w.cell? ⟨B,0,none⟩=some c0∧w.cell? ⟨B,1,none⟩=some c1∧w.cell? ⟨B,2,none⟩=some c2∧w.cell? ⟨B,3,none⟩=some c3∧w.cell? ⟨B,4,none⟩=some c4∧w.cell? ⟨B,5,none⟩=some c5
theorem Box6.below {w w':World} {B:Nat} {c0 c1 c2 c3 c4 c5:Value} (h:Box6 w B c0 c1 c2 c3 c4 c5) (x:Below w.heap.size w w'):Box6 w' B c0 c1 c2 c3 c4 c5:=⟨cell_below h.1 x,cell_below h.2.1 x,cell_below h.2.2.1 x,cell_below h.2.2.2.1 x,cell_below h.2.2.2.2.1 x,cell_below h.2.2.2.2.2 x⟩
theorem Box6.writes {w w':World} {lo hi B:Nat} {c0 c1 c2 c3 c4 c5:Value} (h:Box6 w B c0 c1 c2 c3 c4 c5) (x:Writes lo hi w w') (d:B<lo∨hi≤B):Box6 w' B c0 c1 c2 c3 c4 c5:=⟨cell_writes h.1 x d,cell_writes h.2.1 x d,cell_writes h.2.2.1 x d,cell_writes h.2.2.2.1 x d,cell_writes h.2.2.2.2.1 x d,cell_writes h.2.2.2.2.2 x d⟩
theorem Box6.new (w:World) (c0 c1 c2 c3 c4 c5:Value) (t:TypeId):Box6 (w.alloc (.cells #[c0,c1,c2,c3,c4,c5] t)) w.heap.size c0 c1 c2 c3 c4 c5:=by simp [Box6]
theorem Box6.lt {w:World} {B:Nat} {c0 c1 c2 c3 c4 c5:Value} (h:Box6 w B c0 c1 c2 c3 c4 c5):B<w.heap.size:=Go.block_lt_of_cell h.1
end Go.Proofs.YtjdodbiphijjgaaGreat
