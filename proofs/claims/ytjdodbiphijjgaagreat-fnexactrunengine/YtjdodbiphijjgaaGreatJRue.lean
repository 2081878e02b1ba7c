import Derived.Test.YtjdodbiphijjgaaGreatJDoi
import Derived.Test.YtjdodbiphijjgaaGreatJNb
import Derived.Deep.DeepCutAuto
namespace Go.Proofs.YtjdodbiphijjgaaGreat
open Go.ChangeShapes Go.WideShapes Go.ChangeAt Go.RowKit Go.Deep
set_option linter.unusedVariables false
set_option linter.unusedSimpArgs false
set_option maxRecDepth 20000
structure SpI (w wr:World) (Ba:Nat) (E:En) (A:Nat→Ac) (v:Value) (k:Nat):Prop where
  below:Below w.heap.size w wr
  hB:w.heap.size<Ba
  rb:Box2f wr w.heap.size (.int .i64 0) (.slice none 0 0)
  ob:Box2f wr (Ba+1) (.int .i64 0) v
  now:∃d cd d' cd' lo hi,Box4f wr Ba (.int .i64 (egN E A k).nx) (.int .i64 (egN E A k).ck) (.slice d (egN E A k).p cd) (.slice d' (egN E A k).q cd')∧OwnE2 wr lo hi d d' (egN E A k)∧(Ba+2≤lo∨hi≤Ba)∧∀q,v.ownBlock=some q→q<lo∨hi≤q
  gr:GrRp (Ba+2) wr.heap.size wr v k (rpA E A)
theorem SpI.step {w wr w2 w3 W3 w4:World} {Ba g cap:Nat} {E:En} {A:Nat→Ac} {v:Value} {k:Nat} {la d x d' x':Option Addr} {cx cx':Nat} {lo hi l' h':Nat} {L:List (Int × Int)} (h:SpI w wr Ba E A v k)
    (e2:OwnE2 wr lo hi d d' (egN E A k)) (e3:Ba+2≤lo∨hi≤Ba) (e4:∀q,v.ownBlock=some q→q<lo∨hi≤q)
    (hk:InK wr l' h' la L (egN E A k) d d' (egN E A (k+1)) x x' w2)
    (a1:Writes Ba (Ba+1) w2 w3) (a2:Box4f w3 Ba (.int .i64 (egN E A (k+1)).nx) (.int .i64 (egN E A (k+1)).ck) (.slice x (egN E A (k+1)).p cx) (.slice x' (egN E A (k+1)).q cx'))
    (hb3:Below w3.heap.size w3 W3) (hg:W3.grownBy w4 v.ownBlock) (hl:v.ownBlock=some g∨g=W3.heap.size) (hgr:GrRp (Ba+2) w4.heap.size w4 (.slice (some ⟨g,0,none⟩) (k+1) cap) (k+1) (upf9 (rpA E A) k (rpA E A k))) :
    SpI w (w4.setCell ⟨Ba+1,1,none⟩ (.slice (some ⟨g,0,none⟩) (k+1) cap)) Ba E A (.slice (some ⟨g,0,none⟩) (k+1) cap) (k+1)∧w4.cell? ⟨Ba+1,1,none⟩=some v∧∀o,w4.frozen? ⟨Ba+1,o,none⟩=false:=by
  obtain ⟨q,hq,hw4⟩:=grownW9 hg;obtain ⟨k1,k2,k3,k4,k5,k6⟩:=hk;have hB:=h.hB;have z1:=k4.size;have z2:=a1.size;have z3:=hb3.size;have z4:=hw4.size;have zo:=World.block_lt_of_cell? wr _ h.ob.1.1
  have hv:∀q,v.ownBlock=some q→Ba+2≤q∧q<wr.heap.size:=fun q hq=>by
    obtain ⟨_,A9,c9,l9,h9,ho9,hv9,_⟩:=h.gr;exact ⟨(ho9.lt q hq).1,hv9 q hq⟩
  simp only [] at zo
  have zq:Ba+2≤q:=by
    rcases hq with e | e
    · exact (hv q e).1
    · omega
  have ob4:Box2f w4 (Ba+1) (.int .i64 0) v:=(((h.ob.below k4).writes a1 (by omega)).below hb3).writes hw4 (by omega);have hs:Writes (Ba+1) (Ba+1+1) w4 (w4.setCell ⟨Ba+1,1,none⟩ (.slice (some ⟨g,0,none⟩) (k+1) cap)):=Writes.setCell (Writes.refl _ _ _) (p:=⟨Ba+1,1,none⟩) (Nat.le_refl _) (Nat.lt_succ_self _) _;have hz5:(w4.setCell ⟨Ba+1,1,none⟩ (.slice (some ⟨g,0,none⟩) (k+1) cap)).heap.size=w4.heap.size:=(by simp [World.setCell]);refine ⟨⟨?_,hB,?_,⟨⟨?_,?_⟩,fun o=>?_⟩,⟨x,cx,x',cx',?_⟩,?_⟩,ob4.1.2,ob4.2⟩
  · exact Writes.below (Writes.below (below_then (Writes.below (below_then h.below k4) a1 (by omega)) hb3) hw4 (by omega)) hs (by omega)
  · exact ((((h.rb.below k4).writes a1 (by omega)).below hb3).writes hw4 (by omega)).writes hs (by omega)
  · exact (setO (by omega)).trans ob4.1.1
  · exact setS ob4.1.2
  · rw [World.frozen?_setCell];exact ob4.2 o
  · have hE:∃lo hi,OwnE2 w4 lo hi x x' (egN E A (k+1))∧(Ba+2≤lo∨hi≤Ba)∧∀p,p=g→p<lo∨hi≤p:=by
      rcases k6 with b3 | ⟨rfl,rfl,b1⟩
      · refine ⟨l',h',((b3.writes a1 (by omega)).below hb3).writes hw4 ?_,by omega,fun p hp=>?_⟩
        · rcases hq with e | e
          · have:=(hv q e).2;omega
          · omega
        · subst hp
          rcases hl with e | e
          · have:=(hv p e).2;omega
          · omega
      · have hhi:=e2.1;refine ⟨lo,hi,?_,e3,fun p hp=>?_⟩
        · rw [b1];refine (((e2.below k4).writes a1 (by omega)).below hb3).writes hw4 ?_
          rcases hq with e | e
          · have:=e4 q e;omega
          · omega
        · subst hp
          rcases hl with e | e
          · exact e4 p e
          · omega
    obtain ⟨lo9,hi9,f1,f2,f3⟩:=hE;refine ⟨lo9,hi9,((a2.below hb3).writes hw4 (by omega)).writes hs (by omega),f1.writes hs (by omega),f2,fun p hp=>?_⟩;simp only [Value.ownBlock,Option.some.injEq] at hp;exact f3 p hp.symm
  · rw [hz5];refine GrRp.congr (hgr.writes hs (.inl (Nat.le_refl _))) fun i hi=>?_
    by_cases e:i=k
    · subst e;exact upf9_eq _ _ _
    · exact upf9_ne _ _ e
theorem SpI.fin {w wr w7:World} {Ba m:Nat} {E:En} {A:Nat→Ac} {a:Option Addr} {cap:Nat} (h:SpI w wr Ba E A (.slice a m cap) m) (hw:Writes w.heap.size (w.heap.size+1) wr w7):ResR 0 m (rpA E A) w (.returned (.agg #[.int .i64 0,.slice a m cap])) w7:=by
  obtain ⟨a',cap',e,_,ho⟩:=h.gr.own;simp only [Value.slice.injEq,true_and] at e;obtain ⟨rfl,rfl⟩:=e;have hs:=hw.size;have hB:=h.hB;exact ⟨_,_,rfl,Writes.below h.below hw (Nat.le_refl _),Nat.le_refl _,(ho.keep hs fun x hx h2=>hw.block x h2 (by omega)).mono fun x hx=>⟨by omega,by omega⟩⟩
def SpM (W:World) (c v:Int) (L:List (Int × Int)) (F G:En) (d d':Option Addr) (c6 c7:Value) (wx:World):Prop:=
  ∃(B6 B7:Nat) (la:Option Addr) (lc:Nat) (x:Option Addr) (cx:Nat) (x':Option Addr) (cx':Nat) (lo hi:Nat),c6=.pointer (some ⟨B6,0,none⟩)∧c7=.pointer (some ⟨B7,0,none⟩)∧Hid (Box3f wx B6 (.int .i64 c) (.int .i64 v) (.slice la L.length lc))∧Hid (Box4f wx B7 (.int .i64 G.nx) (.int .i64 G.ck) (.slice x G.p cx) (.slice x' G.q cx'))∧Hid (W.heap.size≤B6∧W.heap.size≤B7)∧Hid (InK W lo hi la L F d d' G x x' wx)
set_option maxHeartbeats 16000000 in
theorem specRe_ok (n:Nat) (K V:Nat→Int) (a:Option Addr) (cap:Nat) (m:Nat) (A:Nat→Ac) (a2:Option Addr) (cap2:Nat) (w:World) (hc:neC n K V=0) (hm:¬100<m) (hC:CellsAt w a n K V) (hA:AcsAt w a2 m A) :
    Calls Tryz.prog 28 #[.slice a n cap,.slice a2 m cap2] w (ResR 0 m (rpA (neE n K V) A) w):=by
  have HC:Hid (CellsAt w a n K V):=hC;have HA:Hid (AcsAt w a2 m A):=hA;have hm':¬((100:Int)<(m:Int)):=(by omega)
  have HB0:Hid (∀o:Obj,o=.cells #[.int .i64 0,.slice none 0 0] 61→Box2f (w.alloc o) w.heap.size (.int .i64 0) (.slice none 0 0)∧Below w.heap.size w (w.alloc o)∧(w.alloc o).heap.size=w.heap.size+1):=by
    rintro o rfl;exact ⟨Box2f.new _ _ _ _,below_new _ _,by simp⟩
  have HQ:Hid (∀W,CellsAt W a n K V→Calls Tryz.prog 85 #[.slice a n cap] W (ERes 0 0 (neE n K V) W)):=fun W h=>by
    have hh:=specNe_any n K V a cap W h
    rwa [hc,show neR n K V=neE n K V from if_pos hc] at hh
  have H0:Hid (eF (neE n K V)=0):=eF_ne hc;clear hC hA hc;generalize neE n K V=E at *;go_enter Tryz.func28,Tryz.ntmps28;go_wp2_with fail;refine (HQ.out _ (HC.out.below (HB0.out _ rfl).2.1)).mono ?_;rintro e w1 ⟨d,cd,d',cd',rfl,hb1,ho⟩;obtain ⟨bR,bW,bz⟩:=HB0.out _ rfl;generalize (w.alloc (.cells #[.int .i64 0,.slice none 0 0] 61))=W0 at *;have hz1:w.heap.size+1≤w1.heap.size:=(by have:=hb1.size;omega);have HW1:Hid (Below w.heap.size w w1):=below_then bW hb1;have HR1:Hid (Box2f w1 w.heap.size (.int .i64 0) (.slice none 0 0)):=bR.below hb1;have HO:Hid (OwnE w1 W0.heap.size w1.heap.size d d' E):=ho;clear HB0 HQ bR bW bz hb1 ho;go_upto_region 8 with fail;obtain ⟨w2,hw2⟩:∃y,y=((w1.alloc (.cells #[.int .i64 0,.int .i64 0,.int .i64 E.nx,.int .i64 E.ck,.slice d E.p cd,.slice d' E.q cd'] 32)).alloc (.cells #[.int .i64 E.nx,.int .i64 E.ck,.slice d E.p cd,.slice d' E.q cd'] 30)).alloc (.cells #[.int .i64 0,.slice none 0 0] 61):=⟨_,rfl⟩;have hb2:Below w1.heap.size w1 w2:=(by rw [hw2];exact (((Below.refl _ _).alloc (Nat.le_refl _) _).alloc (by simp) _).alloc (by simp;omega) _);have hN2:Box4f w2 (w1.heap.size+1) (.int .i64 E.nx) (.int .i64 E.ck) (.slice d E.p cd) (.slice d' E.q cd'):=(by rw [hw2];simp [Box4f,Box4,go_sem]);have hO2:Box2f w2 (w1.heap.size+1+1) (.int .i64 0) (.slice none 0 0):=(by rw [hw2];simp [Box2f,Box2,go_sem]);have hz2:w2.heap.size=w1.heap.size+1+2:=(by rw [hw2];simp);rw [←hw2];clear hw2;have HSP:Hid (SpI w w2 (w1.heap.size+1) E A (.slice none 0 0) 0):=⟨below_then HW1.out hb2,by omega,HR1.out.below hb2,hO2,⟨d,cd,d',cd',W0.heap.size,w1.heap.size,hN2,(HO.out.below hb2).to2,.inr (by omega),fun q hq=>by cases hq⟩,by rw [←hz2];exact GrRp.nil _ _ _⟩;clear HW1 HR1 HO hb2 hN2 hO2 hz2 hz1;generalize w1.heap.size+1=Ba at *;go_wp2_with fail;go_loopw [8] (fun i wr=>∃(k:Nat) (v:Value),k≤m∧i=.int .i64 k∧Hid (SpI w wr Ba E A v k)) (fun i _=>m-(Go.RowKit.intOf i).toNat)
  case atStart=>exact ⟨0,_,Nat.zero_le _,rfl,HSP⟩
  case round=>
    obtain ⟨k,v,hk,rfl,HR⟩:=hrel
    by_cases hlt:k<m
    · have hlt':(k:Int)<(m:Int):=by omega
      have hk0:(0:Int)≤(k:Int):=(by omega)
      rcases HA.out.below HR.out.below with h | ⟨b,off,rfl,hl,hcc⟩
      · omega
      obtain ⟨c0,c1,c2,c3⟩:=hcc k hlt;obtain ⟨d,cd,d',cd',lo,hi,e1,e2,e3,e4⟩:=HR.out.now;have HN:Hid (OwnE2 wr lo hi d d' (egN E A k)∧(Ba+2≤lo∨hi≤Ba)∧∀q',v.ownBlock=some q'→q'<lo∨hi≤q'):=⟨e2,e3,e4⟩;have HNB:Hid (Box4f wr Ba (.int .i64 (egN E A k).nx) (.int .i64 (egN E A k).ck) (.slice d (egN E A k).p cd) (.slice d' (egN E A k).q cd')):=e1
      have HBX:Hid (∀u,Below wr.heap.size wr u→Calls Tryz.prog 76 #[.agg #[.int .i64 (egN E A k).nx,.int .i64 (egN E A k).ck,.slice d (egN E A k).p cd,.slice d' (egN E A k).q cd'],.agg #[.int .i64 (A k).k,.int .i64 (A k).t,.int .i64 (A k).y,.int .i64 (A k).o]] u (DnX (egN E A k) d d' (rpA E A k).cd (rpA E A k).vl (dnL (egN E A k) (dkA (A k))) (egN E A (k+1)) u)):=fun u hu=>
        l9x_any (egN E A k) (dkA (A k)) d cd d' cd' u (few_small (eF_eg H0.out k)) (e2.at.below hu)
      have HT:Hid ((rpA E A k).cn=(dnL (egN E A k) (dkA (A k))).length∧(rpA E A k).cK=kC (dnL (egN E A k) (dkA (A k)))∧(rpA E A k).cV=vC (dnL (egN E A k) (dkA (A k)))):=⟨rfl,rfl,rfl⟩;have hF:egN E A k=egN E A k:=rfl;obtain ⟨⟨n0,n1,n2,n3⟩,nf⟩:=e1;have hBa:Ba<wr.heap.size:=World.block_lt_of_cell? wr _ n0;clear hcc e2 e3 e4 nf HSP hF;generalize hFF:egN E A k=F at *;generalize hGG:egN E A (k+1)=G at *;generalize hTT:rpA E A k=t at *;generalize dnL F (dkA (A k))=L at *;have HFG:Hid (egN E A k=F∧egN E A (k+1)=G∧rpA E A k=t):=⟨hFF,hGG,hTT⟩;clear hFF hGG hTT;generalize hcd:t.cd=c at *;generalize hvl:t.vl=v9 at *;have HCD:Hid (t.cd=c∧t.vl=v9):=⟨hcd,hvl⟩;clear hcd hvl;go_upto_region 11 with fail;go_cut [9,10] (fun c9 c10 wx=>SpM wr c v9 L F G d d' c9 c10 wx)
      case first=>
        refine wp_region_E 999 (S:=fun u=>Below wr.heap.size wr u) (by kernel_rfl) ((Below.refl _ _).drew) (fun hS=>?_);obtain ⟨u0,hu0⟩:∃y,y=wr.drew:=⟨_,rfl⟩;rw [←hu0] at hS ⊢;clear hu0;have HS0:Hid (Below wr.heap.size wr u0):=hS;refine wpAnyE_takeD (L:=999) (i:=0) (v:=.agg #[.int .i64 F.nx,.int .i64 F.ck,.slice d F.p cd,.slice d' F.q cd']) (some 33) rfl rfl (by kernel_rfl) (by kernel_rfl) (by kernel_rfl) (by kernel_rfl) (fun _ _ _ h=>h) (Or.inl ⟨by kernel_rfl,by intro u hSu;have gn0:=cell_below n0 hSu;have gn1:=cell_below n1 hSu;have gn2:=cell_below n2 hSu;have gn3:=cell_below n3 hSu;go_simp⟩) hS ?_
        try simp only [Act.put,List.setIfInBounds_toArray,List.set_cons_zero,List.set_cons_succ]
        refine wpAnyE_takeD (L:=999) (i:=1) (v:=.slice (some ⟨b,off,none⟩) m cap2) (some 34) rfl rfl (by kernel_rfl) (by kernel_rfl) (by kernel_rfl) (by kernel_rfl) (fun _ _ _ h=>h) (Or.inl ⟨by kernel_rfl,by intro u hSu;go_simp⟩) hS ?_
        try simp only [Act.put,List.setIfInBounds_toArray,List.set_cons_zero,List.set_cons_succ]
        refine wpAnyE_takeD (L:=999) (i:=2) (v:=.int .i64 k) (some 35) rfl rfl (by kernel_rfl) (by kernel_rfl) (by kernel_rfl) (by kernel_rfl) (fun _ _ _ h=>h) (Or.inl ⟨by kernel_rfl,by intro u hSu;go_simp⟩) hS ?_
        try simp only [Act.put,List.setIfInBounds_toArray,List.set_cons_zero,List.set_cons_succ]
        refine wpAnyE_takeD (L:=999) (i:=3) (v:=.pointer (some ⟨b,off+k*4,none⟩)) (some 36) rfl rfl (by kernel_rfl) (by kernel_rfl) (by kernel_rfl) (by kernel_rfl) (fun _ _ _ h=>h) (Or.inl ⟨by kernel_rfl,by intro u hSu;go_simp⟩) hS ?_
        try simp only [Act.put,List.setIfInBounds_toArray,List.set_cons_zero,List.set_cons_succ]
        refine wpAnyE_takeD (L:=999) (i:=4) (v:=.agg #[.int .i64 (A k).k,.int .i64 (A k).t,.int .i64 (A k).y,.int .i64 (A k).o]) (some 37) rfl rfl (by kernel_rfl) (by kernel_rfl) (by kernel_rfl) (by kernel_rfl) (fun _ _ _ h=>h) (Or.inl ⟨by kernel_rfl,by intro u hSu;have gc0:=cell_below c0 hSu;have gc1:=cell_below c1 hSu;have gc2:=cell_below c2 hSu;have gc3:=cell_below c3 hSu;go_simp⟩) hS ?_
        try simp only [Act.put,List.setIfInBounds_toArray,List.set_cons_zero,List.set_cons_succ]
        clear n0 n1 n2 n3 c0 c1 c2 c3;refine wpAnyE_ready (rs:=[5,9,10]) (by kernel_rfl) (by simp) ?_;refine AllReadyE.cons rfl (fun K9 hK=>?_) (AllReadyE.cons rfl (fun K9 hK=>?_) (AllReadyE.cons rfl (fun K9 hK=>?_) AllReadyE.nil));go_simp;refine (HBX.out _ hS).mono ?_;rintro e u1 ⟨la,lc,x,cx,x',cx',rfl,hbu,hL2,hG2⟩;have hz1:Hid (u0.heap.size≤u1.heap.size):=hbu.size;have HIK:Hid (InK wr u0.heap.size u1.heap.size la L F d d' G x x' u1):=InK.start hS hbu hL2 hG2;clear hL2 hG2;refine hK.out _ _ (below_then hS hbu) (fun hS9=>?_)
        try simp only [Act.put,List.setIfInBounds_toArray,List.set_cons_zero,List.set_cons_succ]
        clear hK K9 hS9;replace hS:=below_then hS hbu;clear hbu;have HS1:Hid (Below wr.heap.size wr u1):=hS;refine wpAnyE_takeD (L:=999) (i:=6) (v:=.tuple #[.agg #[.int .i64 c,.int .i64 v9,.slice la L.length lc],.agg #[.int .i64 G.nx,.int .i64 G.ck,.slice x G.p cx,.slice x' G.q cx']]) (some 32) rfl rfl (by kernel_rfl) (by kernel_rfl) (by kernel_rfl) (by kernel_rfl) (fun _ _ _ h=>h) (Or.inl ⟨by kernel_rfl,by intro u hSu;go_simp⟩) hS ?_
        try simp only [Act.put,List.setIfInBounds_toArray,List.set_cons_zero,List.set_cons_succ]
        refine wpAnyE_takeD (L:=999) (i:=7) (v:=.agg #[.int .i64 c,.int .i64 v9,.slice la L.length lc]) (some 39) rfl rfl (by kernel_rfl) (by kernel_rfl) (by kernel_rfl) (by kernel_rfl) (fun _ _ _ h=>h) (Or.inl ⟨by kernel_rfl,by intro u hSu;go_simp⟩) hS ?_
        try simp only [Act.put,List.setIfInBounds_toArray,List.set_cons_zero,List.set_cons_succ]
        refine wpAnyE_takeD (L:=999) (i:=8) (v:=.agg #[.int .i64 G.nx,.int .i64 G.ck,.slice x G.p cx,.slice x' G.q cx']) (some 40) rfl rfl (by kernel_rfl) (by kernel_rfl) (by kernel_rfl) (by kernel_rfl) (fun _ _ _ h=>h) (Or.inl ⟨by kernel_rfl,by intro u hSu;go_simp⟩) hS ?_
        try simp only [Act.put,List.setIfInBounds_toArray,List.set_cons_zero,List.set_cons_succ]
        refine wpAnyE_ready (rs:=[9,10]) (by kernel_rfl) (by simp) ?_;refine AllReadyE.cons rfl (fun K9 hK=>?_) (AllReadyE.cons rfl (fun K9 hK=>?_) AllReadyE.nil);go_simp;refine hK.out _ _ (below_then hS (below_new _ _)) (fun hS9=>?_)
        try simp only [Act.put,List.setIfInBounds_toArray,List.set_cons_zero,List.set_cons_succ]
        clear hK K9 hS9;have ZN:=mkB3 u1 46;generalize u1.alloc (.cells #[.int .i64 0,.int .i64 0,.slice none 0 0] 46)=u2 at *;obtain ⟨ZN,hbu,hz2⟩:=ZN;replace HIK:Hid (InK wr u0.heap.size u1.heap.size la L F d d' G x x' u2):=HIK.out.below hbu;have ZA:=ZN;clear ZN;replace hS:=below_then hS hbu;clear hbu;have HS2:Hid (Below wr.heap.size wr u2):=hS;refine wpAnyE_ready (rs:=[10]) (by kernel_rfl) (by simp) ?_;refine AllReadyE.cons rfl (fun K9 hK=>?_) AllReadyE.nil;go_simp;refine hK.out _ _ (below_then hS (below_new _ _)) (fun hS9=>?_)
        try simp only [Act.put,List.setIfInBounds_toArray,List.set_cons_zero,List.set_cons_succ]
        clear hK K9 hS9;have ZN:=mkB4 u2 30;generalize u2.alloc (.cells #[.int .i64 0,.int .i64 0,.slice none 0 0,.slice none 0 0] 30)=u3 at *;obtain ⟨ZN,hbu,hz3⟩:=ZN;replace ZA:Hid (Box3f u3 u1.heap.size (.int .i64 0) (.int .i64 0) (.slice none 0 0)):=ZA.out.below hbu;replace HIK:Hid (InK wr u0.heap.size u1.heap.size la L F d d' G x x' u3):=HIK.out.below hbu;have ZB:=ZN;clear ZN;replace hS:=below_then hS hbu;clear hbu;have HS3:Hid (Below wr.heap.size wr u3):=hS;have HP:DoL wr L F G d d' la x x' u1.heap.size u2.heap.size u3:=⟨_,_,_,_,rfl,rfl,ZA,ZB,HIK,(by have y1:=hz1.out;have y2:=hz2.out;have y3:=hz3.out;have y0:=HS0.out.size;show _∧_∧_∧_∧_;omega)⟩;obtain ⟨B6,B7,lo9,hi9,e6,e7,HP⟩:=HP;rw [←e6,←e7];clear e6 e7 ZA ZB HIK
        rotate_left
        go_simp;refine hK.out _ _ (below_then hS (below_new _ _)) (fun hS9=>?_)
        try simp only [Act.put,List.setIfInBounds_toArray,List.set_cons_zero,List.set_cons_succ]
        clear hK K9 hS9;have ZN:=mkB4 u1 30;generalize u1.alloc (.cells #[.int .i64 0,.int .i64 0,.slice none 0 0,.slice none 0 0] 30)=u2 at *;obtain ⟨ZN,hbu,hz2⟩:=ZN;replace HIK:Hid (InK wr u0.heap.size u1.heap.size la L F d d' G x x' u2):=HIK.out.below hbu;have ZB:=ZN;clear ZN;replace hS:=below_then hS hbu;clear hbu;have HS2:Hid (Below wr.heap.size wr u2):=hS;refine wpAnyE_ready (rs:=[9]) (by kernel_rfl) (by simp) ?_;refine AllReadyE.cons rfl (fun K9 hK=>?_) AllReadyE.nil;go_simp;refine hK.out _ _ (below_then hS (below_new _ _)) (fun hS9=>?_)
        try simp only [Act.put,List.setIfInBounds_toArray,List.set_cons_zero,List.set_cons_succ]
        clear hK K9 hS9;have ZN:=mkB3 u2 46;generalize u2.alloc (.cells #[.int .i64 0,.int .i64 0,.slice none 0 0] 46)=u3 at *;obtain ⟨ZN,hbu,hz3⟩:=ZN;replace ZB:Hid (Box4f u3 u1.heap.size (.int .i64 0) (.int .i64 0) (.slice none 0 0) (.slice none 0 0)):=ZB.out.below hbu;replace HIK:Hid (InK wr u0.heap.size u1.heap.size la L F d d' G x x' u3):=HIK.out.below hbu;have ZA:=ZN;clear ZN;replace hS:=below_then hS hbu;clear hbu;have HS3:Hid (Below wr.heap.size wr u3):=hS;have HP:DoL wr L F G d d' la x x' u2.heap.size u1.heap.size u3:=⟨_,_,_,_,rfl,rfl,ZA,ZB,HIK,(by have y1:=hz1.out;have y2:=hz2.out;have y3:=hz3.out;have y0:=HS0.out.size;show _∧_∧_∧_∧_;omega)⟩;obtain ⟨B6,B7,lo9,hi9,e6,e7,HP⟩:=HP;rw [←e6,←e7];clear e6 e7 ZA ZB HIK
        rotate_left
        go_simp;refine hK.out _ _ (below_then hS (below_new _ _)) (fun hS9=>?_)
        try simp only [Act.put,List.setIfInBounds_toArray,List.set_cons_zero,List.set_cons_succ]
        clear hK K9 hS9;have ZN:=mkB3 u0 46;generalize u0.alloc (.cells #[.int .i64 0,.int .i64 0,.slice none 0 0] 46)=u1 at *;obtain ⟨ZN,hbu,hz1⟩:=ZN;have ZA:=ZN;clear ZN;replace hS:=below_then hS hbu;clear hbu;have HS1:Hid (Below wr.heap.size wr u1):=hS;refine wpAnyE_ready (rs:=[5,10]) (by kernel_rfl) (by simp) ?_;refine AllReadyE.cons rfl (fun K9 hK=>?_) (AllReadyE.cons rfl (fun K9 hK=>?_) AllReadyE.nil);go_simp;refine (HBX.out _ hS).mono ?_;rintro e u2 ⟨la,lc,x,cx,x',cx',rfl,hbu,hL2,hG2⟩;have hz2:Hid (u1.heap.size≤u2.heap.size):=hbu.size;replace ZA:Hid (Box3f u2 u0.heap.size (.int .i64 0) (.int .i64 0) (.slice none 0 0)):=ZA.out.below hbu;have HIK:Hid (InK wr u1.heap.size u2.heap.size la L F d d' G x x' u2):=InK.start hS hbu hL2 hG2;clear hL2 hG2;refine hK.out _ _ (below_then hS hbu) (fun hS9=>?_)
        try simp only [Act.put,List.setIfInBounds_toArray,List.set_cons_zero,List.set_cons_succ]
        clear hK K9 hS9;replace hS:=below_then hS hbu;clear hbu;have HS2:Hid (Below wr.heap.size wr u2):=hS;refine wpAnyE_takeD (L:=999) (i:=6) (v:=.tuple #[.agg #[.int .i64 c,.int .i64 v9,.slice la L.length lc],.agg #[.int .i64 G.nx,.int .i64 G.ck,.slice x G.p cx,.slice x' G.q cx']]) (some 32) rfl rfl (by kernel_rfl) (by kernel_rfl) (by kernel_rfl) (by kernel_rfl) (fun _ _ _ h=>h) (Or.inl ⟨by kernel_rfl,by intro u hSu;go_simp⟩) hS ?_
        try simp only [Act.put,List.setIfInBounds_toArray,List.set_cons_zero,List.set_cons_succ]
        refine wpAnyE_takeD (L:=999) (i:=7) (v:=.agg #[.int .i64 c,.int .i64 v9,.slice la L.length lc]) (some 39) rfl rfl (by kernel_rfl) (by kernel_rfl) (by kernel_rfl) (by kernel_rfl) (fun _ _ _ h=>h) (Or.inl ⟨by kernel_rfl,by intro u hSu;go_simp⟩) hS ?_
        try simp only [Act.put,List.setIfInBounds_toArray,List.set_cons_zero,List.set_cons_succ]
        refine wpAnyE_takeD (L:=999) (i:=8) (v:=.agg #[.int .i64 G.nx,.int .i64 G.ck,.slice x G.p cx,.slice x' G.q cx']) (some 40) rfl rfl (by kernel_rfl) (by kernel_rfl) (by kernel_rfl) (by kernel_rfl) (fun _ _ _ h=>h) (Or.inl ⟨by kernel_rfl,by intro u hSu;go_simp⟩) hS ?_
        try simp only [Act.put,List.setIfInBounds_toArray,List.set_cons_zero,List.set_cons_succ]
        refine wpAnyE_ready (rs:=[10]) (by kernel_rfl) (by simp) ?_;refine AllReadyE.cons rfl (fun K9 hK=>?_) AllReadyE.nil;go_simp;refine hK.out _ _ (below_then hS (below_new _ _)) (fun hS9=>?_)
        try simp only [Act.put,List.setIfInBounds_toArray,List.set_cons_zero,List.set_cons_succ]
        clear hK K9 hS9;have ZN:=mkB4 u2 30;generalize u2.alloc (.cells #[.int .i64 0,.int .i64 0,.slice none 0 0,.slice none 0 0] 30)=u3 at *;obtain ⟨ZN,hbu,hz3⟩:=ZN;replace ZA:Hid (Box3f u3 u0.heap.size (.int .i64 0) (.int .i64 0) (.slice none 0 0)):=ZA.out.below hbu;replace HIK:Hid (InK wr u1.heap.size u2.heap.size la L F d d' G x x' u3):=HIK.out.below hbu;have ZB:=ZN;clear ZN;replace hS:=below_then hS hbu;clear hbu;have HS3:Hid (Below wr.heap.size wr u3):=hS;have HP:DoL wr L F G d d' la x x' u0.heap.size u2.heap.size u3:=⟨_,_,_,_,rfl,rfl,ZA,ZB,HIK,(by have y1:=hz1.out;have y2:=hz2.out;have y3:=hz3.out;have y0:=HS0.out.size;show _∧_∧_∧_∧_;omega)⟩;obtain ⟨B6,B7,lo9,hi9,e6,e7,HP⟩:=HP;rw [←e6,←e7];clear e6 e7 ZA ZB HIK
        rotate_left
        go_simp;refine hK.out _ _ (below_then hS (below_new _ _)) (fun hS9=>?_)
        try simp only [Act.put,List.setIfInBounds_toArray,List.set_cons_zero,List.set_cons_succ]
        clear hK K9 hS9;have ZN:=mkB4 u1 30;generalize u1.alloc (.cells #[.int .i64 0,.int .i64 0,.slice none 0 0,.slice none 0 0] 30)=u2 at *;obtain ⟨ZN,hbu,hz2⟩:=ZN;replace ZA:Hid (Box3f u2 u0.heap.size (.int .i64 0) (.int .i64 0) (.slice none 0 0)):=ZA.out.below hbu;have ZB:=ZN;clear ZN;replace hS:=below_then hS hbu;clear hbu;have HS2:Hid (Below wr.heap.size wr u2):=hS;refine wpAnyE_ready (rs:=[5]) (by kernel_rfl) (by simp) ?_;refine AllReadyE.cons rfl (fun K9 hK=>?_) AllReadyE.nil;go_simp;refine (HBX.out _ hS).mono ?_;rintro e u3 ⟨la,lc,x,cx,x',cx',rfl,hbu,hL2,hG2⟩;have hz3:Hid (u2.heap.size≤u3.heap.size):=hbu.size;replace ZA:Hid (Box3f u3 u0.heap.size (.int .i64 0) (.int .i64 0) (.slice none 0 0)):=ZA.out.below hbu;replace ZB:Hid (Box4f u3 u1.heap.size (.int .i64 0) (.int .i64 0) (.slice none 0 0) (.slice none 0 0)):=ZB.out.below hbu;have HIK:Hid (InK wr u2.heap.size u3.heap.size la L F d d' G x x' u3):=InK.start hS hbu hL2 hG2;clear hL2 hG2;refine hK.out _ _ (below_then hS hbu) (fun hS9=>?_)
        try simp only [Act.put,List.setIfInBounds_toArray,List.set_cons_zero,List.set_cons_succ]
        clear hK K9 hS9;replace hS:=below_then hS hbu;clear hbu;have HS3:Hid (Below wr.heap.size wr u3):=hS;refine wpAnyE_takeD (L:=999) (i:=6) (v:=.tuple #[.agg #[.int .i64 c,.int .i64 v9,.slice la L.length lc],.agg #[.int .i64 G.nx,.int .i64 G.ck,.slice x G.p cx,.slice x' G.q cx']]) (some 32) rfl rfl (by kernel_rfl) (by kernel_rfl) (by kernel_rfl) (by kernel_rfl) (fun _ _ _ h=>h) (Or.inl ⟨by kernel_rfl,by intro u hSu;go_simp⟩) hS ?_
        try simp only [Act.put,List.setIfInBounds_toArray,List.set_cons_zero,List.set_cons_succ]
        refine wpAnyE_takeD (L:=999) (i:=7) (v:=.agg #[.int .i64 c,.int .i64 v9,.slice la L.length lc]) (some 39) rfl rfl (by kernel_rfl) (by kernel_rfl) (by kernel_rfl) (by kernel_rfl) (fun _ _ _ h=>h) (Or.inl ⟨by kernel_rfl,by intro u hSu;go_simp⟩) hS ?_
        try simp only [Act.put,List.setIfInBounds_toArray,List.set_cons_zero,List.set_cons_succ]
        refine wpAnyE_takeD (L:=999) (i:=8) (v:=.agg #[.int .i64 G.nx,.int .i64 G.ck,.slice x G.p cx,.slice x' G.q cx']) (some 40) rfl rfl (by kernel_rfl) (by kernel_rfl) (by kernel_rfl) (by kernel_rfl) (fun _ _ _ h=>h) (Or.inl ⟨by kernel_rfl,by intro u hSu;go_simp⟩) hS ?_
        try simp only [Act.put,List.setIfInBounds_toArray,List.set_cons_zero,List.set_cons_succ]
        have HP:DoL wr L F G d d' la x x' u0.heap.size u1.heap.size u3:=⟨_,_,_,_,rfl,rfl,ZA,ZB,HIK,(by have y1:=hz1.out;have y2:=hz2.out;have y3:=hz3.out;have y0:=HS0.out.size;show _∧_∧_∧_∧_;omega)⟩;obtain ⟨B6,B7,lo9,hi9,e6,e7,HP⟩:=HP;rw [←e6,←e7];clear e6 e7 ZA ZB HIK
        rotate_left
        go_simp;refine hK.out _ _ (below_then hS (below_new _ _)) (fun hS9=>?_)
        try simp only [Act.put,List.setIfInBounds_toArray,List.set_cons_zero,List.set_cons_succ]
        clear hK K9 hS9;have ZN:=mkB4 u0 30;generalize u0.alloc (.cells #[.int .i64 0,.int .i64 0,.slice none 0 0,.slice none 0 0] 30)=u1 at *;obtain ⟨ZN,hbu,hz1⟩:=ZN;have ZB:=ZN;clear ZN;replace hS:=below_then hS hbu;clear hbu;have HS1:Hid (Below wr.heap.size wr u1):=hS;refine wpAnyE_ready (rs:=[5,9]) (by kernel_rfl) (by simp) ?_;refine AllReadyE.cons rfl (fun K9 hK=>?_) (AllReadyE.cons rfl (fun K9 hK=>?_) AllReadyE.nil);go_simp;refine (HBX.out _ hS).mono ?_;rintro e u2 ⟨la,lc,x,cx,x',cx',rfl,hbu,hL2,hG2⟩;have hz2:Hid (u1.heap.size≤u2.heap.size):=hbu.size;replace ZB:Hid (Box4f u2 u0.heap.size (.int .i64 0) (.int .i64 0) (.slice none 0 0) (.slice none 0 0)):=ZB.out.below hbu;have HIK:Hid (InK wr u1.heap.size u2.heap.size la L F d d' G x x' u2):=InK.start hS hbu hL2 hG2;clear hL2 hG2;refine hK.out _ _ (below_then hS hbu) (fun hS9=>?_)
        try simp only [Act.put,List.setIfInBounds_toArray,List.set_cons_zero,List.set_cons_succ]
        clear hK K9 hS9;replace hS:=below_then hS hbu;clear hbu;have HS2:Hid (Below wr.heap.size wr u2):=hS;refine wpAnyE_takeD (L:=999) (i:=6) (v:=.tuple #[.agg #[.int .i64 c,.int .i64 v9,.slice la L.length lc],.agg #[.int .i64 G.nx,.int .i64 G.ck,.slice x G.p cx,.slice x' G.q cx']]) (some 32) rfl rfl (by kernel_rfl) (by kernel_rfl) (by kernel_rfl) (by kernel_rfl) (fun _ _ _ h=>h) (Or.inl ⟨by kernel_rfl,by intro u hSu;go_simp⟩) hS ?_
        try simp only [Act.put,List.setIfInBounds_toArray,List.set_cons_zero,List.set_cons_succ]
        refine wpAnyE_takeD (L:=999) (i:=7) (v:=.agg #[.int .i64 c,.int .i64 v9,.slice la L.length lc]) (some 39) rfl rfl (by kernel_rfl) (by kernel_rfl) (by kernel_rfl) (by kernel_rfl) (fun _ _ _ h=>h) (Or.inl ⟨by kernel_rfl,by intro u hSu;go_simp⟩) hS ?_
        try simp only [Act.put,List.setIfInBounds_toArray,List.set_cons_zero,List.set_cons_succ]
        refine wpAnyE_takeD (L:=999) (i:=8) (v:=.agg #[.int .i64 G.nx,.int .i64 G.ck,.slice x G.p cx,.slice x' G.q cx']) (some 40) rfl rfl (by kernel_rfl) (by kernel_rfl) (by kernel_rfl) (by kernel_rfl) (fun _ _ _ h=>h) (Or.inl ⟨by kernel_rfl,by intro u hSu;go_simp⟩) hS ?_
        try simp only [Act.put,List.setIfInBounds_toArray,List.set_cons_zero,List.set_cons_succ]
        refine wpAnyE_ready (rs:=[9]) (by kernel_rfl) (by simp) ?_;refine AllReadyE.cons rfl (fun K9 hK=>?_) AllReadyE.nil;go_simp;refine hK.out _ _ (below_then hS (below_new _ _)) (fun hS9=>?_)
        try simp only [Act.put,List.setIfInBounds_toArray,List.set_cons_zero,List.set_cons_succ]
        clear hK K9 hS9;have ZN:=mkB3 u2 46;generalize u2.alloc (.cells #[.int .i64 0,.int .i64 0,.slice none 0 0] 46)=u3 at *;obtain ⟨ZN,hbu,hz3⟩:=ZN;replace ZB:Hid (Box4f u3 u0.heap.size (.int .i64 0) (.int .i64 0) (.slice none 0 0) (.slice none 0 0)):=ZB.out.below hbu;replace HIK:Hid (InK wr u1.heap.size u2.heap.size la L F d d' G x x' u3):=HIK.out.below hbu;have ZA:=ZN;clear ZN;replace hS:=below_then hS hbu;clear hbu;have HS3:Hid (Below wr.heap.size wr u3):=hS;have HP:DoL wr L F G d d' la x x' u2.heap.size u0.heap.size u3:=⟨_,_,_,_,rfl,rfl,ZA,ZB,HIK,(by have y1:=hz1.out;have y2:=hz2.out;have y3:=hz3.out;have y0:=HS0.out.size;show _∧_∧_∧_∧_;omega)⟩;obtain ⟨B6,B7,lo9,hi9,e6,e7,HP⟩:=HP;rw [←e6,←e7];clear e6 e7 ZA ZB HIK
        rotate_left
        go_simp;refine hK.out _ _ (below_then hS (below_new _ _)) (fun hS9=>?_)
        try simp only [Act.put,List.setIfInBounds_toArray,List.set_cons_zero,List.set_cons_succ]
        clear hK K9 hS9;have ZN:=mkB3 u1 46;generalize u1.alloc (.cells #[.int .i64 0,.int .i64 0,.slice none 0 0] 46)=u2 at *;obtain ⟨ZN,hbu,hz2⟩:=ZN;replace ZB:Hid (Box4f u2 u0.heap.size (.int .i64 0) (.int .i64 0) (.slice none 0 0) (.slice none 0 0)):=ZB.out.below hbu;have ZA:=ZN;clear ZN;replace hS:=below_then hS hbu;clear hbu;have HS2:Hid (Below wr.heap.size wr u2):=hS;refine wpAnyE_ready (rs:=[5]) (by kernel_rfl) (by simp) ?_;refine AllReadyE.cons rfl (fun K9 hK=>?_) AllReadyE.nil;go_simp;refine (HBX.out _ hS).mono ?_;rintro e u3 ⟨la,lc,x,cx,x',cx',rfl,hbu,hL2,hG2⟩;have hz3:Hid (u2.heap.size≤u3.heap.size):=hbu.size;replace ZA:Hid (Box3f u3 u1.heap.size (.int .i64 0) (.int .i64 0) (.slice none 0 0)):=ZA.out.below hbu;replace ZB:Hid (Box4f u3 u0.heap.size (.int .i64 0) (.int .i64 0) (.slice none 0 0) (.slice none 0 0)):=ZB.out.below hbu;have HIK:Hid (InK wr u2.heap.size u3.heap.size la L F d d' G x x' u3):=InK.start hS hbu hL2 hG2;clear hL2 hG2;refine hK.out _ _ (below_then hS hbu) (fun hS9=>?_)
        try simp only [Act.put,List.setIfInBounds_toArray,List.set_cons_zero,List.set_cons_succ]
        clear hK K9 hS9;replace hS:=below_then hS hbu;clear hbu;have HS3:Hid (Below wr.heap.size wr u3):=hS;refine wpAnyE_takeD (L:=999) (i:=6) (v:=.tuple #[.agg #[.int .i64 c,.int .i64 v9,.slice la L.length lc],.agg #[.int .i64 G.nx,.int .i64 G.ck,.slice x G.p cx,.slice x' G.q cx']]) (some 32) rfl rfl (by kernel_rfl) (by kernel_rfl) (by kernel_rfl) (by kernel_rfl) (fun _ _ _ h=>h) (Or.inl ⟨by kernel_rfl,by intro u hSu;go_simp⟩) hS ?_
        try simp only [Act.put,List.setIfInBounds_toArray,List.set_cons_zero,List.set_cons_succ]
        refine wpAnyE_takeD (L:=999) (i:=7) (v:=.agg #[.int .i64 c,.int .i64 v9,.slice la L.length lc]) (some 39) rfl rfl (by kernel_rfl) (by kernel_rfl) (by kernel_rfl) (by kernel_rfl) (fun _ _ _ h=>h) (Or.inl ⟨by kernel_rfl,by intro u hSu;go_simp⟩) hS ?_
        try simp only [Act.put,List.setIfInBounds_toArray,List.set_cons_zero,List.set_cons_succ]
        refine wpAnyE_takeD (L:=999) (i:=8) (v:=.agg #[.int .i64 G.nx,.int .i64 G.ck,.slice x G.p cx,.slice x' G.q cx']) (some 40) rfl rfl (by kernel_rfl) (by kernel_rfl) (by kernel_rfl) (by kernel_rfl) (fun _ _ _ h=>h) (Or.inl ⟨by kernel_rfl,by intro u hSu;go_simp⟩) hS ?_
        try simp only [Act.put,List.setIfInBounds_toArray,List.set_cons_zero,List.set_cons_succ]
        have HP:DoL wr L F G d d' la x x' u1.heap.size u0.heap.size u3:=⟨_,_,_,_,rfl,rfl,ZA,ZB,HIK,(by have y1:=hz1.out;have y2:=hz2.out;have y3:=hz3.out;have y0:=HS0.out.size;show _∧_∧_∧_∧_;omega)⟩;obtain ⟨B6,B7,lo9,hi9,e6,e7,HP⟩:=HP;rw [←e6,←e7];clear e6 e7 ZA ZB HIK
        rotate_left
        all_goals
          obtain ⟨ZA,ZB,HIK,hne⟩:=HP;refine wpAnyE_ready (rs:=[11]) (by kernel_rfl) (by simp) ?_;refine AllReadyE.cons rfl (fun K9 hK=>?_) AllReadyE.nil;obtain ⟨⟨z0,z1,z2⟩,zf⟩:=ZA.out;go_simp;clear z0 z1 z2 zf;have hw3:=wr3 u3 B6 (.int .i64 c) (.int .i64 v9) (.slice la L.length lc);have hS3:=Writes.below hS hw3 hne.out.2.1;refine hK.out _ _ hS3 (fun hS9=>?_)
          try simp only [Act.put,List.setIfInBounds_toArray,List.set_cons_zero,List.set_cons_succ]
          clear hK K9 hS9;have ZC:Hid (Box3f (((u3.setCell ⟨B6,0,none⟩ (.int .i64 c)).setCell ⟨B6,1,none⟩ (.int .i64 v9)).setCell ⟨B6,2,none⟩ (.slice la L.length lc)) B6 (.int .i64 c) (.int .i64 v9) (.slice la L.length lc)):=ZA.out.set;have ZD:Hid (Box4f (((u3.setCell ⟨B6,0,none⟩ (.int .i64 c)).setCell ⟨B6,1,none⟩ (.int .i64 v9)).setCell ⟨B6,2,none⟩ (.slice la L.length lc)) B7 (.int .i64 0) (.int .i64 0) (.slice none 0 0) (.slice none 0 0)):=ZB.out.writes hw3 (by have:=hne.out.1;omega);have HI3:Hid (InK wr lo9 hi9 la L F d d' G x x' (((u3.setCell ⟨B6,0,none⟩ (.int .i64 c)).setCell ⟨B6,1,none⟩ (.int .i64 v9)).setCell ⟨B6,2,none⟩ (.slice la L.length lc))):=HIK.out.keep hw3 hne.out.2.1 hne.out.2.2.2.1;clear hw3 ZA ZB HIK hS;generalize (((u3.setCell ⟨B6,0,none⟩ (.int .i64 c)).setCell ⟨B6,1,none⟩ (.int .i64 v9)).setCell ⟨B6,2,none⟩ (.slice la L.length lc))=v3 at *;refine wpAnyE_ready (rs:=[12]) (by kernel_rfl) (by simp) ?_;refine AllReadyE.cons rfl (fun K9 hK=>?_) AllReadyE.nil;obtain ⟨⟨z0,z1,z2,z3⟩,zf⟩:=ZD.out;go_simp;clear z0 z1 z2 z3 zf;have hw4:=wr4 v3 B7 (.int .i64 G.nx) (.int .i64 G.ck) (.slice x G.p cx) (.slice x' G.q cx');have hS4:=Writes.below hS3 hw4 hne.out.2.2.1;refine hK.out _ _ hS4 (fun hS9=>?_)
          try simp only [Act.put,List.setIfInBounds_toArray,List.set_cons_zero,List.set_cons_succ]
          clear hK K9 hS9 hS4;have ZE:Hid (Box3f ((((v3.setCell ⟨B7,0,none⟩ (.int .i64 G.nx)).setCell ⟨B7,1,none⟩ (.int .i64 G.ck)).setCell ⟨B7,2,none⟩ (.slice x G.p cx)).setCell ⟨B7,3,none⟩ (.slice x' G.q cx')) B6 (.int .i64 c) (.int .i64 v9) (.slice la L.length lc)):=ZC.out.writes hw4 (by have:=hne.out.1;omega);have ZF:Hid (Box4f ((((v3.setCell ⟨B7,0,none⟩ (.int .i64 G.nx)).setCell ⟨B7,1,none⟩ (.int .i64 G.ck)).setCell ⟨B7,2,none⟩ (.slice x G.p cx)).setCell ⟨B7,3,none⟩ (.slice x' G.q cx')) B7 (.int .i64 G.nx) (.int .i64 G.ck) (.slice x G.p cx) (.slice x' G.q cx')):=ZD.out.set;have HI4:Hid (InK wr lo9 hi9 la L F d d' G x x' ((((v3.setCell ⟨B7,0,none⟩ (.int .i64 G.nx)).setCell ⟨B7,1,none⟩ (.int .i64 G.ck)).setCell ⟨B7,2,none⟩ (.slice x G.p cx)).setCell ⟨B7,3,none⟩ (.slice x' G.q cx'))):=HI3.out.keep hw4 hne.out.2.2.1 hne.out.2.2.2.2;clear hw4 ZC ZD HI3 hS3;generalize ((((v3.setCell ⟨B7,0,none⟩ (.int .i64 G.nx)).setCell ⟨B7,1,none⟩ (.int .i64 G.ck)).setCell ⟨B7,2,none⟩ (.slice x G.p cx)).setCell ⟨B7,3,none⟩ (.slice x' G.q cx'))=v4 at *;have HF:Hid (SpM wr c v9 L F G d d' (.pointer (some ⟨B6,0,none⟩)) (.pointer (some ⟨B7,0,none⟩)) v4):=⟨_,_,la,lc,x,cx,x',cx',_,_,rfl,rfl,ZE,ZF,⟨hne.out.2.1,hne.out.2.2.1⟩,HI4⟩;clear ZE ZF HI4;refine wpAnyE_done (by kernel_rfl) ?_ _;go_simp;go_wp2_with fail;go_meet;exact HF.out
      case rest=>
        obtain ⟨B6,B7,la,lc,x,cx,x',cx',lo9,hi9,rfl,rfl,Z6,Z7,HNE,HIK⟩:=hcut;obtain ⟨w3,hw3⟩:∃y,y=wc:=⟨_,rfl⟩;rw [←hw3] at Z6 Z7 HIK ⊢;clear hw3 n0 n1 n2 n3 c0 c1 c2 c3;have hbk:=HIK.out.2.2.2.1;have HAT:Hid (Box4f w3 Ba (.int .i64 F.nx) (.int .i64 F.ck) (.slice d F.p cd) (.slice d' F.q cd')):=HNB.out.below hbk;have HOB:Hid (Box2f w3 (Ba+1) (.int .i64 0) v):=HR.out.ob.below hbk;have HG3:Hid (GrRp (Ba+2) wr.heap.size w3 v k (rpA E A)):=HR.out.gr.below hbk;have hBo:Ba+2≤wr.heap.size:=World.block_lt_of_cell? wr _ HR.out.ob.1.1;obtain ⟨⟨g0,g1,g2,g3⟩,-⟩:=Z7.out;obtain ⟨⟨n0,n1,n2,n3⟩,nf⟩:=HAT.out;clear hbk HNB;go_upto_region 13 with fail;have hw4:=wr4 w3 Ba (.int .i64 G.nx) (.int .i64 G.ck) (.slice x G.p cx) (.slice x' G.q cx');have HAT4:Hid (Box4f ((((w3.setCell ⟨Ba,0,none⟩ (.int .i64 G.nx)).setCell ⟨Ba,1,none⟩ (.int .i64 G.ck)).setCell ⟨Ba,2,none⟩ (.slice x G.p cx)).setCell ⟨Ba,3,none⟩ (.slice x' G.q cx')) Ba (.int .i64 G.nx) (.int .i64 G.ck) (.slice x G.p cx) (.slice x' G.q cx')):=HAT.out.set;clear g0 g1 g2 g3 n0 n1 n2 n3 nf HAT;generalize ((((w3.setCell ⟨Ba,0,none⟩ (.int .i64 G.nx)).setCell ⟨Ba,1,none⟩ (.int .i64 G.ck)).setCell ⟨Ba,2,none⟩ (.slice x G.p cx)).setCell ⟨Ba,3,none⟩ (.slice x' G.q cx'))=w4 at *;have HW4:Hid (Writes Ba (Ba+1) w3 w4):=hw4;have hX4:Box3f w4 B6 (.int .i64 c) (.int .i64 v9) (.slice la L.length lc):=Z6.out.writes hw4 (by have:=HNE.out.1;omega);have hO4:Box2f w4 (Ba+1) (.int .i64 0) v:=HOB.out.writes hw4 (by omega);have HGR:Hid (∀o:Obj,GrRp (Ba+2) wr.heap.size (w4.alloc o) v k (rpA E A)):=fun o=>(HG3.out.writes hw4 (.inl (by omega))).below (below_new w4 o)
        have HOO:Hid (∀o:Obj,Own (w4.alloc o) lo9 hi9 la t.cn t.cK t.cV):=fun o=>by
          rw [HT.out.1,HT.out.2.1,HT.out.2.2];exact (HIK.out.2.2.2.2.1.writes hw4 (by have:=HIK.out.1;omega)).below (below_new w4 o)
        have HL:Hid (CRp (w4.alloc (.cells #[.int .i64 c,.int .i64 v9,.slice la L.length lc] 46)) w4.heap.size 0 t la lc):=by
          have hh:=lit_rp w4 t la lc;rw [HCD.out.1,HCD.out.2,HT.out.1] at hh;exact hh
        have HHI:Hid (hi9≤w4.heap.size):=Nat.le_trans HIK.out.2.2.1 hw4.size;have hlo:wr.heap.size≤lo9:=HIK.out.1;have hk5:k≤100000:=(by omega);obtain ⟨⟨t0,t1,t2⟩,-⟩:=hX4;obtain ⟨⟨o0,o1⟩,-⟩:=hO4;clear hw4 Z6 Z7 HOB HG3;go_wp2_with (at_builtin;refine wpList_grRp _ rfl (.tmp 43) (.tmp 45) rfl (Ba+2) wr.heap.size v k (rpA E A) rfl (HGR.out _) w4.heap.size 0 1 t la lc lo9 hi9 rfl HL.out (.inr ⟨hlo,Nat.le_trans HHI.out (below_new w4 _).size⟩) hBo trivial (HOO.out _) hk5 ?_);intro g cap' w5 hgr hg hl;obtain ⟨rfl,rfl,rfl⟩:=HFG.out;obtain ⟨hs1,hs2,hs3⟩:=HR.out.step HN.out.1 HN.out.2.1 HN.out.2.2 HIK.out HW4.out HAT4.out (below_new w4 _) hg (by rw [World.size_alloc];exact hl) hgr;have HS5:Hid (SpI w (w5.setCell ⟨Ba+1,1,none⟩ (.slice (some ⟨g,0,none⟩) (k+1) cap')) Ba E A (.slice (some ⟨g,0,none⟩) (k+1) cap') (k+1)):=hs1;clear hgr hg hl hs1 HGR HOO HL HN HR HIK HW4 HAT4 HFG HT HCD HBX t0 t1 t2 o0 o1;go_wp2_with fail;go_roundw
        case rel=>exact ⟨k+1,_,hlt,by go_num,HS5⟩
        case measure=>simp [Go.RowKit.intOf];omega
    · have hkn:k=m:=by omega
      subst hkn;have hnl:¬((k:Int)<(k:Int)):=(by omega);obtain ⟨va,vc,rfl,-⟩:=HR.out.gr.own;have HF:Hid (∀w7,Writes w.heap.size (w.heap.size+1) wr w7→ResR 0 k (rpA E A) w (.returned (.agg #[.int .i64 0,.slice va k vc])) w7):=fun w7 hw=>HR.out.fin hw;obtain ⟨⟨r0,r1⟩,rf⟩:=HR.out.rb;obtain ⟨⟨o0,o1⟩,of⟩:=HR.out.ob;clear HR HSP HA;go_wp2_with fail;refine bodyPost_ret (v:=.agg #[.int .i64 0,.slice va k vc]) (by simp [results,Tryz.results28,go_sem, *]) rfl ?_;refine HF.out _ ?_;exact wr2 _ _ _ _
end Go.Proofs.YtjdodbiphijjgaaGreat
