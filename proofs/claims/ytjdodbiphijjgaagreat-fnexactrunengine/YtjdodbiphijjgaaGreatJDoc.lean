import Derived.Test.YtjdodbiphijjgaaGreatJDob
import Derived.Test.YtjdodbiphijjgaaGreatJRsm
import Derived.Test.YtjdodbiphijjgaaGreatJCb
import Derived.Test.YtjdodbiphijjgaaGreatJBase
import Derived.Lib.SmallJoins
import Derived.Test.YtjdodbiphijjgaaGreatJBox
namespace Go.Proofs.YtjdodbiphijjgaaGreat
open Go.RowKit Go.Deep Go.Shelf
set_option linter.unusedVariables false
set_option linter.unusedSimpArgs false
set_option maxRecDepth 20000
open Go.ChangeShapes Go.WideShapes Go.ChangeAt Go.RowKit Go.Deep Go.Joins
theorem l9x_any (E:En) (r:Dk) (a:Option Addr) (cap:Nat) (a':Option Addr) (cap':Nat) (w:World) (hs:SmallE E) (h:EngAt w a a' E) :
    Calls Tryz.prog 76 #[.agg #[.int .i64 E.nx,.int .i64 E.ck,.slice a E.p cap,.slice a' E.q cap'],.agg #[.int .i64 r.k,.int .i64 r.t,.int .i64 r.y,.int .i64 r.o]] w (DnX E a a' (dnC E r) (dnW E r) (dnL E r) (dnE E r) w):=by
  by_cases h1:r.k=1
  · exact l9e_bt E r a cap a' cap' w h1 hs h
  by_cases h2:r.k=2
  · exact l9e_rk E r a cap a' cap' w h2 hs h
  by_cases h3:r.k=3
  · exact l9e_sk E r a cap a' cap' w h3 hs h
  by_cases h4:r.k=4
  · exact l9e_pk E r a cap a' cap' w h4 hs h
  by_cases h5:r.k=5
  · exact l9e_dk E r a cap a' cap' w h5 hs h
  by_cases h6:r.k=6
  · exact l9e_ct E r a cap a' cap' w h6 hs h
  by_cases h7:r.k=7
  · exact l9e_ab E r a cap a' cap' w h7 hs h
  exact l9e_no E r a cap a' cap' w (by omega) hs h
theorem eF_dn {E:En} (h0:eF E=0) (r:Dk):eF (dnE E r)=0:=by
  unfold dnE;split
  · rename_i hc;unfold dnC at hc;unfold dnG
    by_cases h1:r.k=1
    · rw [if_pos h1] at hc ⊢;exact eF_bt hc
    rw [if_neg h1] at hc ⊢
    by_cases h2:r.k=2
    · rw [if_neg (by omega),if_neg (by omega),if_neg (by omega),if_neg (by omega)];exact h0
    rw [if_neg h2] at hc
    by_cases h3:r.k=3
    · rw [if_neg (by omega),if_neg (by omega),if_neg (by omega),if_neg (by omega)];exact h0
    rw [if_neg h3] at hc
    by_cases h4:r.k=4
    · rw [if_pos h4] at hc ⊢;exact eF_wc (fun e=>by cases e) hc
    rw [if_neg h4] at hc ⊢
    by_cases h5:r.k=5
    · rw [if_pos h5] at hc ⊢;exact eF_wc (fun _=>rfl) hc
    rw [if_neg h5] at hc ⊢
    by_cases h6:r.k=6
    · rw [if_pos h6] at hc ⊢;exact eF_ct hc
    rw [if_neg h6] at hc ⊢
    by_cases h7:r.k=7
    · rw [if_pos h7] at hc ⊢;exact eF_ab hc
    rw [if_neg h7] at hc;cases hc
  · exact h0
theorem eF_few {G:En} (h:eF G=0):G.p≤20∧G.q≤32∧(∀i,i<G.p→(G.T i).n≤60)∧∀i,i<G.q→(G.R i).n≤12:=⟨(eF_pq h).1,(eF_pq h).2,undos60 h,rows12 h⟩
theorem CAns.own {E:En} {w w':World} {e:Ending} (h:CAns E w e w'):∃d cd d' cd',e=.returned (.agg #[.int .i64 E.nx,.int .i64 E.ck,.slice d E.p cd,.slice d' E.q cd'])∧Below w.heap.size w w'∧OwnE w' w.heap.size w'.heap.size d d' E:=by
  obtain ⟨v,v',b0,M,rfl,hb,h1,h2,ht,hr⟩:=h;obtain ⟨d,cd,rfl,-,ot⟩:=ht.own;obtain ⟨d',cd',rfl,-,orr⟩:=hr.own;exact ⟨d,cd,d',cd',rfl,hb,Nat.le_refl _,b0,M,M,w'.heap.size,h1,ot.1,by omega,Nat.le_refl _,.inl (Nat.le_refl _),ot,orr⟩
def doC (E:En) (r:Dk):Int:=if eF E=0 then (if inB r.k 1 7=true then 0 else 3) else eF E
def DoR (c rc rv:Int) (L:List (Int × Int)) (G:En) (w:World) (e:Ending) (w':World):Prop:=
  ∃a ca d cd d' cd',e=.returned (.agg #[.int .i64 c,.int .i64 rc,.int .i64 rv,.slice a L.length ca,.int .i64 G.nx,.int .i64 G.ck,.slice d G.p cd,.slice d' G.q cd'])∧Below w.heap.size w w'∧OwnRR w' w.heap.size w'.heap.size a L.length (kC L) (vC L) d d' G
def drC (E:En) (r:Dk):Int:=if doC E r=0 then dnC E r else 0
def drV (E:En) (r:Dk):Int:=if doC E r=0 then dnW E r else 0
def drL (E:En) (r:Dk):List (Int × Int):=if doC E r=0 then dnL E r else []
def drE (E:En) (r:Dk):En:=if doC E r=0 then dnE E r else zEn
theorem dor_bad {c:Int} {w w':World} (hb:Below w.heap.size w w'):DoR c 0 0 [] zEn w (.returned (.agg #[.int .i64 c,.int .i64 0,.int .i64 0,.slice none 0 0,.int .i64 0,.int .i64 0,.slice none 0 0,.slice none 0 0])) w':=
  ⟨none,0,none,0,none,0,rfl,hb,Nat.le_refl _,w.heap.size,w.heap.size,w.heap.size,w'.heap.size,.inl (Nat.le_refl _),Nat.le_refl _,hb.size,Nat.le_refl _,Nat.le_refl _,⟨hb.size,.inl rfl⟩,zEn_own _ _ hb.size⟩
theorem dr_bad {E:En} {r:Dk} {c:Int} (h:doC E r=c) (hc:c≠0):drC E r=0∧drV E r=0∧drL E r=[]∧drE E r=zEn:=by
  subst h;exact ⟨if_neg hc,if_neg hc,if_neg hc,if_neg hc⟩
theorem dr_ok {E:En} {r:Dk} (h:doC E r=0):drC E r=dnC E r∧drV E r=dnW E r∧drL E r=dnL E r∧drE E r=dnE E r:=⟨if_pos h,if_pos h,if_pos h,if_pos h⟩
structure BxD (w W:World) (E:En) (r:Dk) (s1 s2:Value):Prop where
  below:Below w.heap.size w W
  hsz:w.heap.size+3≤W.heap.size
  e:Box4 W w.heap.size (.int .i64 E.nx) (.int .i64 E.ck) s1 s2
  a:Box4 W (w.heap.size+1) (.int .i64 r.k) (.int .i64 r.t) (.int .i64 r.y) (.int .i64 r.o)
  r:Box8r W (w.heap.size+1+1) (.int .i64 0) (.int .i64 0) (.int .i64 0) (.slice none 0 0) (.int .i64 0) (.int .i64 0) (.slice none 0 0) (.slice none 0 0)
  rf:∀o,W.frozen? ⟨w.heap.size+1+1,o,none⟩=false
theorem BxD.mono {w W W2:World} {E:En} {r:Dk} {s1 s2:Value} (h:BxD w W E r s1 s2) (hb:Below W.heap.size W W2):BxD w W2 E r s1 s2:=by
  have h1:=h.hsz;have f:∀q o,q<W.heap.size→W2.frozen? ⟨q,o,none⟩=W.frozen? ⟨q,o,none⟩:=fun q o hq=>World.frozen?_of_block (w:=W) (a:=⟨q,o,none⟩) (hb.block q hq);exact ⟨below_then h.below hb,Nat.le_trans h1 hb.size,h.e.below hb,h.a.below hb,h.r.below hb,fun o=>(f _ _ (by omega)).trans (h.rf o)⟩
theorem BxD.start (w:World) (E:En) (r:Dk) (s1 s2:Value) (t1 t2 t3:TypeId):BxD w (((w.alloc (.cells #[.int .i64 E.nx,.int .i64 E.ck,s1,s2] t1)).alloc (.cells #[.int .i64 r.k,.int .i64 r.t,.int .i64 r.y,.int .i64 r.o] t2)).alloc (.cells #[.int .i64 0,.int .i64 0,.int .i64 0,.slice none 0 0,.int .i64 0,.int .i64 0,.slice none 0 0,.slice none 0 0] t3)) E r s1 s2:=by
  have h1:=below_new w (.cells #[.int .i64 E.nx,.int .i64 E.ck,s1,s2] t1);have b1:=Box4.new w (.int .i64 E.nx) (.int .i64 E.ck) s1 s2 t1;have z1:(w.alloc (.cells #[.int .i64 E.nx,.int .i64 E.ck,s1,s2] t1)).heap.size=w.heap.size+1:=(by simp);generalize w.alloc (.cells #[.int .i64 E.nx,.int .i64 E.ck,s1,s2] t1)=w1 at *;have h2:=below_new w1 (.cells #[.int .i64 r.k,.int .i64 r.t,.int .i64 r.y,.int .i64 r.o] t2);have b2:=Box4.new w1 (.int .i64 r.k) (.int .i64 r.t) (.int .i64 r.y) (.int .i64 r.o) t2;have z2:(w1.alloc (.cells #[.int .i64 r.k,.int .i64 r.t,.int .i64 r.y,.int .i64 r.o] t2)).heap.size=w.heap.size+1+1:=(by simp [z1]);generalize w1.alloc (.cells #[.int .i64 r.k,.int .i64 r.t,.int .i64 r.y,.int .i64 r.o] t2)=w2 at *;have h3:=below_new w2 (.cells #[.int .i64 0,.int .i64 0,.int .i64 0,.slice none 0 0,.int .i64 0,.int .i64 0,.slice none 0 0,.slice none 0 0] t3);have b3:=Box8r.new w2 (.int .i64 0) (.int .i64 0) (.int .i64 0) (.slice none 0 0) (.int .i64 0) (.int .i64 0) (.slice none 0 0) (.slice none 0 0) t3
  have f3:∀o,(w2.alloc (.cells #[.int .i64 0,.int .i64 0,.int .i64 0,.slice none 0 0,.int .i64 0,.int .i64 0,.slice none 0 0,.slice none 0 0] t3)).frozen? ⟨w2.heap.size,o,none⟩=false:=fun o=>by simp [go_sem]
  have z3:(w2.alloc (.cells #[.int .i64 0,.int .i64 0,.int .i64 0,.slice none 0 0,.int .i64 0,.int .i64 0,.slice none 0 0,.slice none 0 0] t3)).heap.size=w.heap.size+1+1+1:=(by simp [z2]);generalize w2.alloc (.cells #[.int .i64 0,.int .i64 0,.int .i64 0,.slice none 0 0,.int .i64 0,.int .i64 0,.slice none 0 0,.slice none 0 0] t3)=w3 at *;rw [z1] at b2;rw [z2] at b3 f3;exact ⟨below_then (below_then h1 h2) h3,by omega,(b1.below h2).below h3,b2.below h3,b3,f3⟩
def smf9 (f:Nat→Nat):Nat→Nat
  | 0=>0
  | k+1=>smf9 f k+f k
theorem smf9_ge (f:Nat→Nat):∀n i,i<n→f i≤smf9 f n
  | 0,i,h=>by omega
  | n+1,i,h=>by
    by_cases e:i=n
    · subst e;simp [smf9]
    · have:=smf9_ge f n i (by omega);simp only [smf9];omega
theorem smf9_le (f:Nat→Nat) {n:Nat}:∀{i},i≤n→smf9 f i≤smf9 f n:=by
  induction n with
  | zero => intro i h; have : i = 0 := by omega
            subst this;exact Nat.le_refl _
  | succ n ih=>
    intro i h
    by_cases e:i=n+1
    · subst e;exact Nat.le_refl _
    · have:=ih (i:=i) (by omega);simp only [smf9];omega
theorem smf9_add (f:Nat→Nat) (c d:Nat):∀k,smf9 (fun i=>f i*c+d) k=smf9 f k*c+k*d
  | 0=>by simp [smf9]
  | k+1=>by simp only [smf9,smf9_add f c d k,Nat.add_mul,Nat.one_mul];omega
def upf9 {α:Type} (f:Nat→α) (j:Nat) (x:α) (i:Nat):α:=if i=j then x else f i
theorem upf9_eq {α:Type} (f:Nat→α) (j:Nat) (x:α):upf9 f j x j=x:=by simp [upf9]
theorem upf9_ne {α:Type} (f:Nat→α) {j i:Nat} (x:α) (h:i≠j):upf9 f j x i=f i:=by simp [upf9,h]
def pref9 {α:Type} (f g:Nat→α) (j i:Nat):α:=if i<j then f i else g i
theorem pref9_upf {α:Type} (f g:Nat→α) (j:Nat):upf9 (pref9 f g j) j (f j)=pref9 f g (j+1):=by
  funext i
  by_cases e:i=j
  · subst e;simp [upf9,pref9]
  · by_cases h:i<j
    · have:i<j+1:=by omega
      simp [upf9,pref9,e,h,this]
    · have:¬i<j+1:=by omega
      simp [upf9,pref9,e,h,this]
theorem pref9_at {α:Type} (f g:Nat→α) (j:Nat):pref9 f g j j=g j:=by simp [pref9]
theorem pref9_lt {α:Type} (f g:Nat→α) {j i:Nat} (h:i<j):pref9 f g j i=f i:=by simp [pref9,h]
theorem pref9_zero {α:Type} (f g:Nat→α):pref9 f g 0=g:=by funext i;simp [pref9]
def LeC (n c:Nat):Prop:=True
structure Rp where
  cd:Int
  vl:Int
  cn:Nat
  cK:Nat→Int
  cV:Nat→Int
def SmRp (t:Rp):Prop:=(t.cn≤1048576)∧True
def szRp (t:Rp):Nat:=t.cn
def InRp (w:World) (a0:Option Addr) (t:Rp):Prop:=CellsAt w a0 t.cn t.cK t.cV∧True
theorem InRp.below {w w':World} {a0:Option Addr} {t:Rp} (h:InRp w a0 t) (hb:Below w.heap.size w w'):InRp w' a0 t:=by
  obtain ⟨h0,_⟩:=h;exact ⟨h0.below hb,trivial⟩
def CRp (w:World) (b o:Nat) (t:Rp) (a0:Option Addr) (c0:Nat):Prop:=
  w.cell? ⟨b,o,none⟩=some (.int .i64 t.cd)∧w.cell? ⟨b,o+1,none⟩=some (.int .i64 t.vl)∧w.cell? ⟨b,o+2,none⟩=some (.slice a0 t.cn c0)
theorem CRp.block {w w':World} {b o:Nat} {t:Rp} {a0:Option Addr} {c0:Nat} (h:CRp w b o t a0 c0) (e:w'.heap[b]? = w.heap[b]?):CRp w' b o t a0 c0:=by
  have g:∀i,w'.cell? ⟨b,i,none⟩=w.cell? ⟨b,i,none⟩:=fun i=>World.cell?_of_block (w:=w) (a:=⟨b,i,none⟩) e;obtain ⟨h0,h1,h2⟩:=h;exact ⟨(g _).trans h0,(g _).trans h1,(g _).trans h2⟩
def RpsAt (w:World) (a:Option Addr) (n:Nat) (T:Nat→Rp):Prop:=
  n=0∨∃b off,a=some ⟨b,off,none⟩∧b<w.heap.size∧∀i,i<n→∃a0 c0,CRp w b (off+i*3) (T i) a0 c0∧InRp w a0 (T i)∧LeC (T i).cn (c0)
theorem RpsAt.below {w w':World} {a:Option Addr} {n:Nat} {T:Nat→Rp} (h:RpsAt w a n T) (hb:Below w.heap.size w w'):RpsAt w' a n T:=by
  rcases h with h | ⟨b,off,ha,hl,hc⟩
  · exact .inl h
  · refine .inr ⟨b,off,ha,Nat.lt_of_lt_of_le hl hb.size,fun i hi=>?_⟩;obtain ⟨a0,c0,h1,h2,h3⟩:=hc i hi;exact ⟨a0,c0,h1.block (hb.block _ hl),h2.below hb,h3⟩
theorem infoRp:(Tryz.prog.info? 46).map (fun i=>(i.zero,i.size,i.bytes))=some (some (.agg #[.int .i64 0,.int .i64 0,.slice none 0 0]),3,40):=by kernel_rfl
def smRp (T:Nat→Rp) (k:Nat):Nat:=smf9 (fun i=>szRp (T i)) k
set_option maxHeartbeats 1000000 in
theorem eqRp_same (t:Rp) (a0:Option Addr) (c0:Nat) (d0:Option Addr) (e0:Nat) (w:World) (hS:SmRp t) (h:InRp w a0 t) (h':InRp w d0 t) :
    Calls Tryz.prog 82 #[.agg #[.int .i64 t.cd,.int .i64 t.vl,.slice a0 t.cn c0],.agg #[.int .i64 t.cd,.int .i64 t.vl,.slice d0 t.cn e0]] w fun e w'=>e=.returned (.bool true)∧Below w.heap.size w w':=by
  obtain ⟨hS0,_⟩:=hS;have HA:Hid (InRp w a0 t):=h;have HD:Hid (InRp w d0 t):=h';clear h h';have hne0:(t.cd != t.cd)=false:=(by simp);have hne1:(t.vl != t.vl)=false:=(by simp);have hb0:∀o1 o2,Below w.heap.size w ((w.alloc o1).alloc o2):=fun o1 o2=>(((Below.refl _ _).alloc (Nat.le_refl _) _).alloc (by simp) _);go_enter Tryz.func82,Tryz.ntmps82;go_wp2_with fail;refine (eqCellS_any t.cn t.cK t.cV a0 d0 c0 e0 _ (by omega) ((HA.out.1).below (hb0 _ _)) ((HD.out.1).below (hb0 _ _))).mono ?_;rintro e w1 ⟨rfl,hb⟩;have HB1:Hid (Below w.heap.size w w1):=below_then (hb0 _ _) hb;clear hb;clear hb0;go_wp2_with fail;go_ret;exact ⟨rfl,HB1.out⟩
set_option maxHeartbeats 4000000 in
theorem eqReplyS_any (n:Nat) (T:Nat→Rp) (a a':Option Addr) (cap cap':Nat) (w:World) (hn:n≤1048576) (hL:∀i,i<n→SmRp (T i)) (h:RpsAt w a n T) (h':RpsAt w a' n T) :
    Calls Tryz.prog 89 #[.slice a n cap,.slice a' n cap'] w fun e w'=>e=.returned (.bool true)∧Below w.heap.size w w':=by
  have HL:Hid (∀i,i<n→SmRp (T i)):=hL;have HA:Hid (RpsAt w a n T):=h;have HA':Hid (RpsAt w a' n T):=h';have hne:((n:Int) != (n:Int))=false:=(by simp);clear hL h h';go_enter Tryz.func89,Tryz.ntmps89;go_wp2_with fail;go_loopw [5] (fun i wr=>∃k:Nat,k≤n∧i=.int .i64 k∧Hid (Below w.heap.size w wr)) (fun i _=>n-(intOf i).toNat)
  case atStart=>exact ⟨0,Nat.zero_le _,rfl,Below.refl _ _⟩
  case round=>
    obtain ⟨k,hk,rfl,HB⟩:=hrel
    by_cases hlt:k<n
    · have hlt':(k:Int)<(n:Int):=by omega
      have hk0:(0:Int)≤(k:Int):=(by omega)
      rcases HA.out.below HB.out with h | ⟨b,off,rfl,hl,hc⟩
      · omega
      rcases HA'.out.below HB.out with h | ⟨b',off',rfl,hl',hc'⟩
      · omega
      obtain ⟨a0,c0,hC,hy1,-⟩:=hc k hlt;obtain ⟨d0,e0,hC',hy2,-⟩:=hc' k hlt;obtain ⟨q0,q1,q2⟩:=hC;obtain ⟨y0,y1,y2⟩:=hC';have H1:Hid (InRp wr a0 (T k)):=hy1;have H2:Hid (InRp wr d0 (T k)):=hy2;have HLk:Hid (SmRp (T k)):=HL.out k hlt;clear hc hc' hy1 hy2;generalize T k=t at *;go_wp2_with fail;have hb0:Below wr.heap.size wr wr.drew:=(Below.refl _ _).drew
      go_region_held3 (fun w'=>Below wr.heap.size wr w'∧w'.cell? ⟨b,off+k*3,none⟩=some (.int .i64 t.cd)∧w'.cell? ⟨b,off+k*3+1,none⟩=some (.int .i64 t.vl)∧w'.cell? ⟨b,off+k*3+2,none⟩=some (.slice a0 t.cn c0)∧w'.cell? ⟨b',off'+k*3,none⟩=some (.int .i64 t.cd)∧w'.cell? ⟨b',off'+k*3+1,none⟩=some (.int .i64 t.vl)∧w'.cell? ⟨b',off'+k*3+2,none⟩=some (.slice d0 t.cn e0)) (go_keep)
        (first | (go_at_call 82;refine (eqRp_same t a0 c0 d0 e0 _ HLk.out (H1.out.below (by simp [*])) (H2.out.below (by simp [*]))).mono ?_;rintro e w1 ⟨rfl,hbq⟩;have hU:=below_then (w:=wr) (by simp [*]) hbq;have u0:=cell_below (B:=b) (o:=off+k*3) (v:=.int .i64 t.cd) (by simp [*]) hbq;have u1:=cell_below (B:=b) (o:=off+k*3+1) (v:=.int .i64 t.vl) (by simp [*]) hbq;have u2:=cell_below (B:=b) (o:=off+k*3+2) (v:=.slice a0 t.cn c0) (by simp [*]) hbq;have u3:=cell_below (B:=b') (o:=off'+k*3) (v:=.int .i64 t.cd) (by simp [*]) hbq;have u4:=cell_below (B:=b') (o:=off'+k*3+1) (v:=.int .i64 t.vl) (by simp [*]) hbq;have u5:=cell_below (B:=b') (o:=off'+k*3+2) (v:=.slice d0 t.cn e0) (by simp [*]) hbq))
      go_wp2_with fail;go_roundw
      case rel=>exact ⟨k+1,hlt,by go_num,below_then HB.out (by assumption)⟩
      case measure=>simp [intOf];omega
    · have hkn:k=n:=by omega
      have hnl:¬((k:Int)<(n:Int)):=(by omega);go_wp2_with fail;go_ret;exact ⟨rfl,HB.out⟩
end Go.Proofs.YtjdodbiphijjgaaGreat
