import Derived.Test.YtjdodbiphijjgaaGreatJVj
import Derived.Test.YtjdodbiphijjgaaGreatJBox
import Derived.BigQuiet
namespace Go.Proofs.YtjdodbiphijjgaaGreat
open Go.RowKit Go.Deep
set_option linter.unusedVariables false
set_option maxRecDepth 20000
def rnE (K V:Nat→Int) (i:Nat):Rw:=⟨K i,1,fun _=>⟨1,1,false,V i⟩⟩
def zEn:En:=⟨0,0,0,fun _=>zTx,0,fun _=>zRw⟩
def neC (n:Nat) (K V:Nat→Int):Int:=if 20<n then 2 else cff K V n 0
def neE (n:Nat) (K V:Nat→Int):En:=⟨2,if n=0 then 0 else 1,0,fun _=>zTx,n,rnE K V⟩
def neR (n:Nat) (K V:Nat→Int):En:=if neC n K V=0 then neE n K V else zEn
def ERes (c v:Int) (E:En) (w:World) (e:Ending) (w':World):Prop:=∃a cap a' cap',e=.returned (.agg #[.int .i64 c,.int .i64 v,.int .i64 E.nx,.int .i64 E.ck,.slice a E.p cap,.slice a' E.q cap'])∧Below w.heap.size w w'∧OwnE w' w.heap.size w'.heap.size a a' E
theorem zEn_own (w:World) (lo:Nat) (h:lo≤w.heap.size):OwnE w lo w.heap.size none none zEn:=
  ⟨Nat.le_refl _,lo,lo,lo,lo,Nat.le_refl _,h,Nat.le_refl _,h,.inl (Nat.le_refl _),⟨h,.inl rfl⟩,⟨h,.inl rfl⟩⟩
theorem eres_bad {c:Int} {w w':World} (hb:Below w.heap.size w w'):ERes c 0 zEn w (.returned (.agg #[.int .i64 c,.int .i64 0,.int .i64 0,.int .i64 0,.slice none 0 0,.slice none 0 0])) w':=
  ⟨none,0,none,0,rfl,hb,zEn_own _ _ hb.size⟩
structure NEi (w wr:World) (B:Nat) (v:Value) (k:Nat) (K V:Nat→Int) (ck:Int):Prop where
  below:Below w.heap.size w wr
  hB:w.heap.size<B
  hsz:B+1≤wr.heap.size
  e0:wr.cell? ⟨B,0,none⟩=some (.int .i64 2)
  e1:wr.cell? ⟨B,1,none⟩=some (.int .i64 ck)
  e2:wr.cell? ⟨B,2,none⟩=some (.slice none 0 0)
  e3:wr.cell? ⟨B,3,none⟩=some v
  ef:∀o,wr.frozen? ⟨B,o,none⟩=false
  r0:wr.cell? ⟨w.heap.size,0,none⟩=some (.int .i64 0)
  r1:wr.cell? ⟨w.heap.size,1,none⟩=some (.int .i64 0)
  r2:wr.cell? ⟨w.heap.size,2,none⟩=some (.int .i64 0)
  r3:wr.cell? ⟨w.heap.size,3,none⟩=some (.int .i64 0)
  r4:wr.cell? ⟨w.heap.size,4,none⟩=some (.slice none 0 0)
  r5:wr.cell? ⟨w.heap.size,5,none⟩=some (.slice none 0 0)
  rf:∀o,wr.frozen? ⟨w.heap.size,o,none⟩=false
  gr:GrRw (B+1) wr.heap.size wr v k (rnE K V)
theorem NEi.mono {w wr wq:World} {B:Nat} {v:Value} {k:Nat} {K V:Nat→Int} {ck:Int} (h:NEi w wr B v k K V ck) (hb:Below wr.heap.size wr wq):NEi w wq B v k K V ck:=by
  have hs:=h.hsz;have hB:=h.hB
  exact ⟨below_then h.below hb,hB,Nat.le_trans hs hb.size,cell_below h.e0 hb,cell_below h.e1 hb,cell_below h.e2 hb,cell_below h.e3 hb,fun o=>(hb.frozen (p:=⟨B,o,none⟩) (by show B < _;omega)).trans (h.ef o),
    cell_below h.r0 hb,cell_below h.r1 hb,cell_below h.r2 hb,cell_below h.r3 hb,cell_below h.r4 hb,cell_below h.r5 hb,fun o=>(hb.frozen (p:=⟨w.heap.size,o,none⟩) (by show w.heap.size < _;omega)).trans (h.rf o),(h.gr.below hb).wide hb.size (Nat.le_refl _)⟩
theorem NEi.clock {w wr:World} {B:Nat} {v:Value} {k:Nat} {K V:Nat→Int} {ck:Int} (h:NEi w wr B v k K V ck):NEi w (wr.setCell ⟨B,1,none⟩ (.int .i64 1)) B v k K V 1:=by
  have hB:=h.hB;have hz:(wr.setCell ⟨B,1,none⟩ (.int .i64 1)).heap.size=wr.heap.size:=(by simp [World.setCell]);have o:∀(b i:Nat),b≠B→(wr.setCell ⟨B,1,none⟩ (.int .i64 1)).cell? ⟨b,i,none⟩=wr.cell? ⟨b,i,none⟩:=fun b i hne=>World.cell?_setCell_other _ _ _ _ (by intro e;exact hne (congrArg Addr.block e).symm)
  refine ⟨h.below.setCell (p:=⟨B,1,none⟩) (by show w.heap.size≤B;omega) _,hB,by rw [hz];exact h.hsz,(setO (by omega)).trans h.e0,setS h.e1,(setO (by omega)).trans h.e2,(setO (by omega)).trans h.e3,fun o=>by rw [World.frozen?_setCell];exact h.ef o,
    (o _ _ (by omega)).trans h.r0,(o _ _ (by omega)).trans h.r1,(o _ _ (by omega)).trans h.r2,(o _ _ (by omega)).trans h.r3,(o _ _ (by omega)).trans h.r4,(o _ _ (by omega)).trans h.r5,fun o=>by rw [World.frozen?_setCell];exact h.rf o,?_⟩
  rw [hz];exact h.gr.writes (Writes.setCell (Writes.refl B (B+1) _) (p:=⟨B,1,none⟩) (Nat.le_refl _) (Nat.lt_succ_self _) _) (.inl (Nat.le_refl _))
theorem NEi.app {w wr w':World} {B g cap:Nat} {v:Value} {k:Nat} {K V:Nat→Int} {ck:Int} (h:NEi w wr B v k K V ck) (hg:wr.grownBy w' v.ownBlock) (hgr:GrRw (B+1) w'.heap.size w' (.slice (some ⟨g,0,none⟩) (k+1) cap) (k+1) (upf (rnE K V) k (rnE K V k))) :
    NEi w (w'.setCell ⟨B,3,none⟩ (.slice (some ⟨g,0,none⟩) (k+1) cap)) B (.slice (some ⟨g,0,none⟩) (k+1) cap) (k+1) K V ck∧w'.cell? ⟨B,3,none⟩=some v∧(∀o,w'.frozen? ⟨B,o,none⟩=false)∧w'.cell? ⟨B,1,none⟩=some (.int .i64 ck):=by
  have hB:=h.hB;have hs:=h.hsz;have hgs:=hg.size;have hz:(w'.setCell ⟨B,3,none⟩ (.slice (some ⟨g,0,none⟩) (k+1) cap)).heap.size=w'.heap.size:=(by simp [World.setCell])
  have hne:∀q,q<B+1→some q≠v.ownBlock:=fun q hq e=>by
    obtain ⟨_,_,_,_,_,ho,_⟩:=h.gr;have:=(ho.lt q e.symm).1;omega
  have hblk:∀q,q<B+1→w'.heap[q]? = wr.heap[q]?:=fun q hq=>hg.block q (by omega) (hne q hq);have c:∀q i,q<B+1→w'.cell? ⟨q,i,none⟩=wr.cell? ⟨q,i,none⟩:=fun q i hq=>World.cell?_of_block (w:=wr) (a:=⟨q,i,none⟩) (hblk q hq);have f:∀q i,q<B+1→w'.frozen? ⟨q,i,none⟩=wr.frozen? ⟨q,i,none⟩:=fun q i hq=>World.frozen?_of_block (w:=wr) (a:=⟨q,i,none⟩) (hblk q hq);have o:∀(b i:Nat),b≠B→(w'.setCell ⟨B,3,none⟩ (.slice (some ⟨g,0,none⟩) (k+1) cap)).cell? ⟨b,i,none⟩=w'.cell? ⟨b,i,none⟩:=fun b i hne=>World.cell?_setCell_other _ _ _ _ (by intro e;exact hne (congrArg Addr.block e).symm)
  refine ⟨⟨(h.below.grown hg (by omega) fun q hq=>by
      have:¬q<B+1:=fun hlt=>hne q hlt hq.symm
      omega).setCell (p:=⟨B,3,none⟩) (by show w.heap.size≤B;omega) _,hB,by rw [hz];omega,(setO (by omega)).trans ((c _ _ (by omega)).trans h.e0),(setO (by omega)).trans ((c _ _ (by omega)).trans h.e1),(setO (by omega)).trans ((c _ _ (by omega)).trans h.e2),setS ((c _ _ (by omega)).trans h.e3),fun o=>by rw [World.frozen?_setCell,f _ _ (by omega)];exact h.ef o,
    (o _ _ (by omega)).trans ((c _ _ (by omega)).trans h.r0),(o _ _ (by omega)).trans ((c _ _ (by omega)).trans h.r1),(o _ _ (by omega)).trans ((c _ _ (by omega)).trans h.r2),(o _ _ (by omega)).trans ((c _ _ (by omega)).trans h.r3),(o _ _ (by omega)).trans ((c _ _ (by omega)).trans h.r4),(o _ _ (by omega)).trans ((c _ _ (by omega)).trans h.r5),fun o=>by rw [World.frozen?_setCell,f _ _ (by omega)];exact h.rf o,?_⟩,(c _ _ (by omega)).trans h.e3,fun o=>(f _ _ (by omega)).trans (h.ef o),(c _ _ (by omega)).trans h.e1⟩
  rw [hz];refine GrRw.congr (hgr.writes (Writes.setCell (Writes.refl B (B+1) _) (p:=⟨B,3,none⟩) (Nat.le_refl _) (Nat.lt_succ_self _) _) (.inl (Nat.le_refl _))) fun i hi=>?_
  by_cases e:i=k
  · subst e;exact upf_eq _ _ _
  · exact upf_ne _ _ e
theorem NEi.fin {w wr w7:World} {B:Nat} {a:Option Addr} {cap n:Nat} {K V:Nat→Int} {ck:Int} (h:NEi w wr B (.slice a n cap) n K V ck) (hck:ck=if n=0 then 0 else 1) (hw:Writes w.heap.size (w.heap.size+1) wr w7) (hs:w7.heap.size=wr.heap.size) :
    ERes 0 0 (neE n K V) w (.returned (.agg #[.int .i64 0,.int .i64 0,.int .i64 2,.int .i64 ck,.slice none 0 0,.slice a n cap])) w7:=by
  have hB:=h.hB;have hsz:=h.hsz;obtain ⟨a',cap',e,_,ho⟩:=h.gr.own;simp only [Value.slice.injEq,true_and] at e;obtain ⟨rfl,rfl⟩:=e;refine ⟨none,0,a,cap,by rw [hck];rfl,Writes.below h.below hw (Nat.le_refl _),?_⟩;have h2:=ho.writes hw (.inr (by omega));exact ⟨Nat.le_refl _,w.heap.size,w.heap.size,B+1,wr.heap.size,Nat.le_refl _,by omega,by omega,by omega,.inl (by omega),⟨by omega,.inl rfl⟩,h2⟩
theorem lit_row {w0:World} {X Y:Nat} (key:Int) (r:Vr) (hX:w0.heap.size=X) (hY:X+1=Y) :
    CRw ((w0.alloc (.cells #[.int .i64 r.t,.int .i64 r.a,.bool r.g,.int .i64 r.v] 179)).alloc (.cells #[.int .i64 key,.slice (some ⟨X,0,none⟩) 1 1] 173)) Y 0 ⟨key,1,fun _=>r⟩ (some ⟨X,0,none⟩) 1∧
    Own4 ((w0.alloc (.cells #[.int .i64 r.t,.int .i64 r.a,.bool r.g,.int .i64 r.v] 179)).alloc (.cells #[.int .i64 key,.slice (some ⟨X,0,none⟩) 1 1] 173)) X Y (some ⟨X,0,none⟩) 1 (fun _=>r):=by
  subst hX hY;refine ⟨⟨by simp [go_sem],by simp [go_sem]⟩,by simp,.inr ⟨_,0,rfl,Nat.le_refl _,Nat.lt_succ_self _,fun i hi=>?_,fun i=>by simp [go_sem]⟩⟩;have:i=0:=(by omega);subst this;exact ⟨by simp [go_sem],by simp [go_sem],by simp [go_sem],by simp [go_sem]⟩
set_option maxHeartbeats 4000000 in
theorem implNe_ok (n:Nat) (K V:Nat→Int) (a:Option Addr) (cap:Nat) (w:World) (hn:n≤20) (hc:cff K V n 0=0) (h:CellsAt w a n K V) :
    Calls Tryz.prog 159 #[.slice a n cap] w (ERes 0 0 (neE n K V) w):=by
  have HA:Hid (CellsAt w a n K V):=h;have hn':¬((20:Int)<(n:Int)):=(by omega);clear h;go_enter Tryz.func159,Tryz.ntmps159;go_wp2_with fail;refine (cellsFault_any n K V a cap _ (by omega) (HA.out.below (below_new _ _))).mono ?_;rintro e w1 ⟨rfl,hb1⟩;rw [hc];have HB1:Hid (Below w.heap.size w w1):=below_then (below_new _ _) hb1
  have HN:Hid (∀o:Obj,o=.cells #[.int .i64 2,.int .i64 0,.slice none 0 0,.slice none 0 0] 30→NEi w (w1.alloc o) w1.heap.size (.slice none 0 0) 0 K V 0):=by
    rintro o rfl;obtain ⟨hcc,hff⟩:=bcell2 hb1;have hz:w.heap.size<w1.heap.size:=(by have:=hb1.size;simp at this;omega);have cz:∀i,(w1.alloc (.cells #[.int .i64 2,.int .i64 0,.slice none 0 0,.slice none 0 0] 30)).cell? ⟨w.heap.size,i,none⟩=w1.cell? ⟨w.heap.size,i,none⟩:=fun i=>World.cell?_alloc_lt _ _ _ hz;have fzz:∀i,(w1.alloc (.cells #[.int .i64 2,.int .i64 0,.slice none 0 0,.slice none 0 0] 30)).frozen? ⟨w.heap.size,i,none⟩=w1.frozen? ⟨w.heap.size,i,none⟩:=fun i=>(below_new w1 _).frozen (p:=⟨w.heap.size,i,none⟩) hz;refine ⟨HB1.out.alloc (by omega) _,hz,by simp,by simp [go_sem],by simp [go_sem],by simp [go_sem],by simp [go_sem],fun o=>by simp [go_sem],?_,?_,?_,?_,?_,?_,fun o=>?_,GrRw.nil _ _ _⟩
    · rw [cz,hcc _ _ (by simp)];simp [go_sem]
    · rw [cz,hcc _ _ (by simp)];simp [go_sem]
    · rw [cz,hcc _ _ (by simp)];simp [go_sem]
    · rw [cz,hcc _ _ (by simp)];simp [go_sem]
    · rw [cz,hcc _ _ (by simp)];simp [go_sem]
    · rw [cz,hcc _ _ (by simp)];simp [go_sem]
    · rw [fzz,hff _ _ (by simp)];simp [go_sem]
  clear hb1 hc;go_wp2_with fail;go_loopw [6,7,21] (fun _ _ i wr=>∃k:Nat,∃v,k≤n∧i=.int .i64 k∧Hid (NEi w wr w1.heap.size v k K V (if k=0 then 0 else 1))) (fun _ _ i _=>n-(intOf i).toNat)
  case atStart=>exact ⟨0,.slice none 0 0,Nat.zero_le _,rfl,HN.out _ rfl⟩
  case round=>
    obtain ⟨k,v,hk,rfl,HR⟩:=hrel
    by_cases hlt:k<n
    · have hlt':(k:Int)<(n:Int):=by omega
      have hk0:(0:Int)≤(k:Int):=(by omega)
      rcases HA.out.below HR.out.below with h | ⟨b,off,rfl,hl,hKK,hVV⟩
      · omega
      have q0:=hKK k hlt;have q1:=hVV k hlt;have c1:=HR.out.e1;have c3:=HR.out.e3;have cf:=HR.out.ef;have hB:=HR.out.hsz;have HW:Hid (∀o1 o2:Obj,NEi w (((wr.alloc o1).setCell ⟨w1.heap.size,1,none⟩ (.int .i64 1)).alloc o2) w1.heap.size v k K V 1):=fun o1 o2=>(HR.out.mono (below_new _ _)).clock.mono (below_new _ _)
      have hX:∀o1 o2:Obj,(((wr.alloc o1).setCell ⟨w1.heap.size,1,none⟩ (.int .i64 1)).alloc o2).heap.size=wr.heap.size+1+1:=fun o1 o2=>by simp [World.setCell]
      have HG:Hid (∀o1 o2 o3 o4:Obj,GrRw (w1.heap.size+1) (wr.heap.size+1+1) (((((wr.alloc o1).setCell ⟨w1.heap.size,1,none⟩ (.int .i64 1)).alloc o2).alloc o3).alloc o4) v k (rnE K V)):=fun o1 o2 o3 o4=>by
        have h:=(HW.out o1 o2).gr;rw [hX] at h;exact (h.below (below_new _ _)).below (below_new _ _)
      have HX:Hid (∀o1 o2:Obj,(((wr.alloc o1).setCell ⟨w1.heap.size,1,none⟩ (.int .i64 1)).alloc o2).heap.size=wr.heap.size+1+1):=hX;have e1:(if k+1=0 then (0:Int) else 1)=1:=(by simp);have d1:=fun o:Obj=>cell_alloc c1 o;have df:∀(o:Obj) (i:Nat),(wr.alloc o).frozen? ⟨w1.heap.size,i,none⟩=false:=fun o i=>(HR.out.mono (below_new _ o)).ef i;have d3:=fun o1 o2=>(HW.out o1 o2).e3;have hne:¬(w1.heap.size=wr.heap.size):=(by omega);have hne':¬(wr.heap.size=w1.heap.size):=(by omega);clear hKK hVV HN HR hX;go_wp2_with (at_builtin;refine wpList_grRw _ rfl (.tmp 30) (.tmp 36) rfl (w1.heap.size+1) (wr.heap.size+1+1) v k (rnE K V) rfl (HG.out _ _ _ _) (wr.heap.size+1+1+1) 0 1 (rnE K V k) (some ⟨wr.heap.size+1+1,0,none⟩) 1 (wr.heap.size+1+1) (wr.heap.size+1+1+1) rfl (lit_row (K k) ⟨1,1,false,V k⟩ (HX.out _ _) rfl).1 (.inr ⟨Nat.le_refl _,by simp [World.setCell]⟩) (by omega) (Nat.le_refl _) (lit_row (K k) ⟨1,1,false,V k⟩ (HX.out _ _) rfl).2 (by omega) ?_);intro g cap' w2 hgr hg;obtain ⟨hn2,c32,cf2,c12⟩:=NEi.app (((HW.out _ _).mono (below_new _ _)).mono (below_new _ _)) hg hgr;have HN2:Hid (NEi w (w2.setCell ⟨w1.heap.size,3,none⟩ (.slice (some ⟨g,0,none⟩) (k+1) cap')) w1.heap.size (.slice (some ⟨g,0,none⟩) (k+1) cap') (k+1) K V (if k+1=0 then 0 else 1)):=(by rw [e1];exact hn2);clear hn2 hgr hg HW HG HX c1 c3 cf q0 q1;go_wp2_with fail;go_roundw
      case rel=>exact ⟨k+1,_,hlt,by go_num,HN2⟩
      case measure=>simp [intOf];omega
    · have hkn:k=n:=by omega
      subst hkn;have hnl:¬((k:Int)<(k:Int)):=(by omega);obtain ⟨a5,cap5,rfl,-⟩:=HR.out.gr.own;obtain ⟨-,hB,hsz,e0,e1,e2,e3,ef,r0,r1,r2,r3,r4,r5,rf,-⟩:=HR.out;have HF:Hid (∀w7,Writes w.heap.size (w.heap.size+1) wr w7→w7.heap.size=wr.heap.size→ERes 0 0 (neE k K V) w (.returned (.agg #[.int .i64 0,.int .i64 0,.int .i64 2,.int .i64 (if k=0 then 0 else 1),.slice none 0 0,.slice a5 k cap5])) w7):=fun w7 h1 h2=>HR.out.fin rfl h1 h2;generalize (if k=0 then (0:Int) else 1)=ck at *;clear HN HR;go_wp2_with fail;refine bodyPost_ret (v:=.agg #[.int .i64 0,.int .i64 0,.int .i64 2,.int .i64 ck,.slice none 0 0,.slice a5 k cap5]) (by simp [results,Tryz.results159,go_sem, *]) rfl ?_;refine HF.out _ ?_ (by simp [World.setCell])
      repeat (first | with_reducible exact Writes.refl _ _ _ | with_reducible refine Writes.setCell ?_ (by first | omega | (simp <;> omega)) (by first | omega | (simp <;> omega)) _)
theorem implNe_many (n:Nat) (a:Option Addr) (cap:Nat) (w:World) (hn:20<n) :
    Calls Tryz.prog 159 #[.slice a n cap] w (ERes 2 0 zEn w):=by
  have hn':(20:Int)<(n:Int):=(by omega);have HF:Hid (∀w',Below w.heap.size w w'→ERes 2 0 zEn w (.returned (.agg #[.int .i64 2,.int .i64 0,.int .i64 0,.int .i64 0,.slice none 0 0,.slice none 0 0])) w'):=fun w' h=>eres_bad h;go_enter Tryz.func159,Tryz.ntmps159;go_wp2_with fail;refine bodyPost_ret (v:=.agg #[.int .i64 2,.int .i64 0,.int .i64 0,.int .i64 0,.slice none 0 0,.slice none 0 0]) (by simp [results,Tryz.results159,go_sem]) rfl ?_;refine HF.out _ ?_
  repeat (first | with_reducible exact Below.refl _ _ | with_reducible refine Below.setCell ?_ (by first | omega | (simp <;> omega)) _ | with_reducible refine Below.alloc ?_ (Nat.le_refl _) _)
theorem implNe_bad (n:Nat) (K V:Nat→Int) (a:Option Addr) (cap:Nat) (w:World) (hn:n≤20) (c:Int) (hc:cff K V n 0=c) (hc0:c≠0) (h:CellsAt w a n K V) :
    Calls Tryz.prog 159 #[.slice a n cap] w (ERes c 0 zEn w):=by
  have hn':¬((20:Int)<(n:Int)):=(by omega);have HA:Hid (CellsAt w a n K V):=h;have HF:Hid (∀w',Below w.heap.size w w'→ERes c 0 zEn w (.returned (.agg #[.int .i64 c,.int .i64 0,.int .i64 0,.int .i64 0,.slice none 0 0,.slice none 0 0])) w'):=fun w' h=>eres_bad h;clear h;go_enter Tryz.func159,Tryz.ntmps159;go_wp2_with fail;refine (cellsFault_any n K V a cap _ (by omega) (HA.out.below (below_new _ _))).mono ?_;rintro e w1 ⟨rfl,hb1⟩;rw [hc];have HB1:Hid (Below w.heap.size w w1):=below_then (below_new _ _) hb1;obtain ⟨hcc,hff⟩:=bcell2 hb1;have hc1:(c != 0)=true:=(by simp [hc0]);have r0:w1.cell? ⟨w.heap.size,0,none⟩=some (.int .i64 0):=(by rw [hcc _ _ (by simp)];simp [go_sem]);have r1:w1.cell? ⟨w.heap.size,1,none⟩=some (.int .i64 0):=(by rw [hcc _ _ (by simp)];simp [go_sem]);have r2:w1.cell? ⟨w.heap.size,2,none⟩=some (.int .i64 0):=(by rw [hcc _ _ (by simp)];simp [go_sem]);have r3:w1.cell? ⟨w.heap.size,3,none⟩=some (.int .i64 0):=(by rw [hcc _ _ (by simp)];simp [go_sem]);have r4:w1.cell? ⟨w.heap.size,4,none⟩=some (.slice none 0 0):=(by rw [hcc _ _ (by simp)];simp [go_sem]);have r5:w1.cell? ⟨w.heap.size,5,none⟩=some (.slice none 0 0):=(by rw [hcc _ _ (by simp)];simp [go_sem])
  have rf:∀i,w1.frozen? ⟨w.heap.size,i,none⟩=false:=fun i=>by rw [hff _ _ (by simp)];simp [go_sem]
  clear hcc hff hb1 hc;go_wp2_with fail;refine bodyPost_ret (v:=.agg #[.int .i64 c,.int .i64 0,.int .i64 0,.int .i64 0,.slice none 0 0,.slice none 0 0]) (by simp [results,Tryz.results159,go_sem, *]) rfl ?_;refine HF.out _ ?_
  repeat (first | with_reducible exact HB1.out | with_reducible refine Below.setCell ?_ (by first | omega | (simp <;> omega)) _)
theorem implNe_any (n:Nat) (K V:Nat→Int) (a:Option Addr) (cap:Nat) (w:World) (h:CellsAt w a n K V) :
    Calls Tryz.prog 159 #[.slice a n cap] w (ERes (neC n K V) 0 (neR n K V) w):=by
  unfold neR
  by_cases h1:20<n
  · have e:neC n K V=2:=by rw [neC,if_pos h1]
    rw [e,if_neg (by decide)];exact implNe_many n a cap w h1
  · have e:neC n K V=cff K V n 0:=by rw [neC,if_neg h1]
    by_cases h2:cff K V n 0=0
    · rw [e,if_pos h2,h2];exact implNe_ok n K V a cap w (by omega) h2 h
    · rw [e,if_neg h2];exact implNe_bad n K V a cap w (by omega) _ rfl h2 h
def cmN (E:En) (j:Nat):En:=⟨E.nx,E.ck,E.p,upf E.T j ⟨(E.T j).id,(E.T j).am,2,(E.T j).dn,0,(E.T j).U⟩,E.q,E.R⟩
def cmY (E:En) (j:Nat):En:=⟨E.nx,E.ck+1,E.p,upf E.T j ⟨(E.T j).id,(E.T j).am,2,E.ck+1,0,(E.T j).U⟩,E.q,cmk E.R (E.T j).id (E.ck+1) E.q⟩
def ctC (E:En) (id:Int):Int:=if askC E id=0 then (if 0<(E.T (askP E id).toNat).n∧E.ck=1000000 then 3 else 0) else askC E id
def ctV (E:En) (id:Int):Int:=if ctC E id=0 then (if 0<(E.T (askP E id).toNat).n then E.ck+1 else (E.T (askP E id).toNat).dn) else 0
def ctE (E:En) (id:Int):En:=if ctC E id=0 then (if 0<(E.T (askP E id).toNat).n then cmY E (askP E id).toNat else cmN E (askP E id).toNat) else zEn
theorem ct_bad {E:En} {id:Int} (h:askC E id≠0):ctC E id=askC E id∧ctV E id=0∧ctE E id=zEn:=by
  have e:ctC E id=askC E id:=if_neg h;exact ⟨e,if_neg (by rw [e];exact h),if_neg (by rw [e];exact h)⟩
theorem ct_full {E:En} {id:Int} {j:Nat} (h:askC E id=0) (hj:askP E id=(j:Int)) (hn:0<(E.T j).n) (hk:E.ck=1000000):ctC E id=3∧ctV E id=0∧ctE E id=zEn:=by
  have e:ctC E id=3:=(by unfold ctC;rw [if_pos h,hj,Int.toNat_natCast,if_pos ⟨hn,hk⟩]);exact ⟨e,if_neg (by rw [e];omega),if_neg (by rw [e];omega)⟩
theorem ct_yes {E:En} {id:Int} {j:Nat} (h:askC E id=0) (hj:askP E id=(j:Int)) (hn:0<(E.T j).n) (hk:E.ck≠1000000):ctC E id=0∧ctV E id=E.ck+1∧ctE E id=cmY E j:=by
  have e:ctC E id=0:=(by unfold ctC;rw [if_pos h,hj,Int.toNat_natCast,if_neg (fun x=>hk x.2)]);refine ⟨e,?_,?_⟩
  · unfold ctV;rw [if_pos e,hj,Int.toNat_natCast,if_pos hn]
  · unfold ctE;rw [if_pos e,hj,Int.toNat_natCast,if_pos hn]
theorem ct_no {E:En} {id:Int} {j:Nat} (h:askC E id=0) (hj:askP E id=(j:Int)) (hn:¬0<(E.T j).n):ctC E id=0∧ctV E id=(E.T j).dn∧ctE E id=cmN E j:=by
  have e:ctC E id=0:=(by unfold ctC;rw [if_pos h,hj,Int.toNat_natCast,if_neg (fun x=>hn x.1)]);refine ⟨e,?_,?_⟩
  · unfold ctV;rw [if_pos e,hj,Int.toNat_natCast,if_neg hn]
  · unfold ctE;rw [if_pos e,hj,Int.toNat_natCast,if_neg hn]
theorem eres_own {w wz w7:World} {E':En} {v:Int} {a a':Option Addr} {c c' b0 M C l h:Nat} (hb:Below w.heap.size w wz) (h1:w.heap.size≤l) (h2:h≤b0) (h3:b0≤M) (h5:M≤C) (h4:C≤wz.heap.size) (h6:l≤h) (ht:OwnTx wz b0 M a E'.p E'.T) (hr:OwnRw wz M C a' E'.q E'.R) (hw:Writes l h wz w7) (hs:w7.heap.size=wz.heap.size) :
    ERes 0 v E' w (.returned (.agg #[.int .i64 0,.int .i64 v,.int .i64 E'.nx,.int .i64 E'.ck,.slice a E'.p c,.slice a' E'.q c'])) w7:=by
  refine ⟨a,c,a',c',rfl,Writes.below hb hw h1,Nat.le_refl _,b0,M,M,C,by omega,by rw [hs];omega,by omega,by rw [hs];exact h4,.inl (Nat.le_refl _),ht.writes hw (.inr h2),hr.writes hw (.inr (by omega))⟩
set_option maxHeartbeats 16000000 in
theorem implCt_any (E:En) (a:Option Addr) (cap:Nat) (a':Option Addr) (cap':Nat) (id:Int) (w:World) (hs:SmallE E) (h:EngAt w a a' E) :
    Calls Tryz.prog 41 #[.agg #[.int .i64 E.nx,.int .i64 E.ck,.slice a E.p cap,.slice a' E.q cap'],.int .i64 id] w (ERes (ctC E id) (ctV E id) (ctE E id) w):=by
  have HXA:Hid (EngAt w a a' E):=h;have HS:Hid (SmallE E):=hs;clear h hs
  have HBX:Hid (∀o1 o2:Obj,o1=.cells #[.int .i64 E.nx,.int .i64 E.ck,.slice a E.p cap,.slice a' E.q cap'] 30→o2=.cells #[.int .i64 0,.int .i64 0,.int .i64 0,.int .i64 0,.slice none 0 0,.slice none 0 0] 32→
      Box4 ((w.alloc o1).alloc o2) w.heap.size (.int .i64 E.nx) (.int .i64 E.ck) (.slice a E.p cap) (.slice a' E.q cap')∧Box6 ((w.alloc o1).alloc o2) (w.heap.size+1) (.int .i64 0) (.int .i64 0) (.int .i64 0) (.int .i64 0) (.slice none 0 0) (.slice none 0 0)∧(∀i,((w.alloc o1).alloc o2).frozen? ⟨w.heap.size+1,i,none⟩=false)∧Below w.heap.size w ((w.alloc o1).alloc o2)∧((w.alloc o1).alloc o2).heap.size=w.heap.size+2):=by
    rintro o1 o2 rfl rfl;exact ⟨(Box4.new w _ _ _ _ _).alloc _,by simp [Box6,go_sem],fun i=>by simp [go_sem],((Below.refl _ _).alloc (Nat.le_refl _) _).alloc (by simp) _,by simp⟩
  go_enter Tryz.func41,Tryz.ntmps41;go_wp2_with fail;obtain ⟨hb4,hb2,hbf,hbw,hbs⟩:=HBX.out _ _ rfl rfl;refine (placeOfOpen_any E a cap a' cap' id _ HS.out (HXA.out.below hbw)).mono ?_;rintro e W ⟨rfl,hb1⟩;have HB4:Hid (Box4 W w.heap.size (.int .i64 E.nx) (.int .i64 E.ck) (.slice a E.p cap) (.slice a' E.q cap')):=hb4.below hb1;have HR6:Hid (Box6 W (w.heap.size+1) (.int .i64 0) (.int .i64 0) (.int .i64 0) (.int .i64 0) (.slice none 0 0) (.slice none 0 0)):=hb2.below hb1;have HRF:Hid (∀i,W.frozen? ⟨w.heap.size+1,i,none⟩=false):=fun i=>((bcell2 hb1).2 _ _ (by rw [hbs];omega)).trans (hbf i);have HBW:Hid (Below w.heap.size w W):=below_then hbw hb1;have hs1:w.heap.size+2≤W.heap.size:=(by have:=hb1.size;rw [hbs] at this;exact this);clear hb1 hb4 hb2 hbf hbw hbs HBX
  by_cases hc:askC E id=0
  case neg=>
    have HF:Hid (∀w7,Below w.heap.size w w7→ERes (ctC E id) (ctV E id) (ctE E id) w (.returned (.agg #[.int .i64 (askC E id),.int .i64 0,.int .i64 0,.int .i64 0,.slice none 0 0,.slice none 0 0])) w7):=fun w7 hb=>by
      rw [(ct_bad hc).1,(ct_bad hc).2.1,(ct_bad hc).2.2];exact eres_bad hb
    have hc2:(askC E id != 0)=true:=(by simp [hc]);obtain ⟨r0,r1,r2,r3,r4,r5⟩:=HR6.out;have rf:=HRF.out;clear hc;generalize askC E id=uu at *;generalize askP E id=up at *;go_wp2_with fail;refine bodyPost_ret (v:=.agg #[.int .i64 uu,.int .i64 0,.int .i64 0,.int .i64 0,.slice none 0 0,.slice none 0 0]) (by simp [results,Tryz.results41,go_sem, *]) rfl ?_;refine HF.out _ ?_
    repeat (first | with_reducible exact HBW.out | with_reducible refine Below.setCell ?_ (by first | omega | (simp <;> omega)) _)
  obtain ⟨h0,j,hj,hp,hid⟩:=ask_open hc;have HEX:Hid (EngAt W a a' E):=HXA.out.below HBW.out;have h32:=(eF_pq h0).2;have hp20:=(eF_pq h0).1;have HU60:Hid (∀i,i<E.p→(E.T i).n≤60):=undos60 h0;have HR12:Hid (∀i,i<E.q→(E.R i).n≤12):=rows12 h0;have hck:=(eF_good h0).2.1
  rcases HEX.out.1 with h | ⟨bb,off,rfl,hl,hcc⟩
  · omega
  obtain ⟨ti,tc,hCT,-,-⟩:=hcc j hj;have x4:=hCT.2.2.2.2;have hj1:(j:Int)<(E.p:Int):=(by omega);have hj0:(0:Int)≤(j:Int):=(by omega);obtain ⟨b0,b1,b2,b3⟩:=HB4.out;have HHC:Hid (askC E id=0):=hc;have HHP:Hid (askP E id=(j:Int)):=hp;rw [hc,hp];clear hc hp hcc hCT h0
  by_cases hfull:0<(E.T j).n∧E.ck=1000000
  · have HF:Hid (∀w7,Below w.heap.size w w7→ERes (ctC E id) (ctV E id) (ctE E id) w (.returned (.agg #[.int .i64 3,.int .i64 0,.int .i64 0,.int .i64 0,.slice none 0 0,.slice none 0 0])) w7):=fun w7 hb=>by
      have e:=ct_full HHC.out HHP.out hfull.1 hfull.2;rw [e.1,e.2.1,e.2.2];exact eres_bad hb
    obtain ⟨r0,r1,r2,r3,r4,r5⟩:=HR6.out;have rf:=HRF.out;have hn0:(0:Int)<((E.T j).n:Int):=(by omega);have hck2:(E.ck == 1000000)=true:=(by simp [hfull.2]);clear hfull;go_wp2_with fail;refine bodyPost_ret (v:=.agg #[.int .i64 3,.int .i64 0,.int .i64 0,.int .i64 0,.slice none 0 0,.slice none 0 0]) (by simp [results,Tryz.results41,go_sem, *]) rfl ?_;refine HF.out _ ?_
    repeat (first | with_reducible exact HBW.out | with_reducible refine Below.setCell ?_ (by first | omega | (simp <;> omega)) _)
  have HCALL:Hid (Calls Tryz.prog 81 #[.agg #[.int .i64 E.nx,.int .i64 E.ck,.slice (some ⟨bb,off,none⟩) E.p cap,.slice a' E.q cap']] W (CAns E W)):=copyEngine_any E _ cap a' cap' W hp20 h32 HU60.out HR12.out HEX.out
  have HPREP:Hid (∀(w2:World) (va:Option Addr) (vc b0 M:Nat) (va':Option Addr) (vc':Nat),Below W.heap.size W w2→W.heap.size≤b0→b0≤M→OwnTx w2 b0 M va E.p E.T→OwnRw w2 M w2.heap.size va' E.q E.R→∀W3,W3=w2.alloc (.cells #[.int .i64 E.nx,.int .i64 E.ck,.slice va E.p vc,.slice va' E.q vc'] 30)→Hid (Below W.heap.size W W3)∧W3.heap.size=w2.heap.size+1∧Hid (Box4 W3 w2.heap.size (.int .i64 E.nx) (.int .i64 E.ck) (.slice va E.p vc) (.slice va' E.q vc'))∧Hid (∀i,W3.frozen? ⟨w2.heap.size,i,none⟩=false)∧Hid (OwnTx W3 b0 M va E.p E.T)∧Hid (OwnRw W3 M w2.heap.size va' E.q E.R)):=by
    rintro w2 va vc b0 M va' vc' g1 g2 g3 g4 g5 W3 rfl;exact ⟨below_then g1 (below_new _ _),World.size_alloc _ _,Box4.new _ _ _ _ _ _,fun i=>by simp [go_sem],g4.below (below_new _ _),g5.below (below_new _ _)⟩
  by_cases hn:0<(E.T j).n
  · have hk:E.ck≠1000000:=fun e=>hfull ⟨hn,e⟩;have hn0:(0:Int)<((E.T j).n:Int):=(by omega);have hck2:(E.ck == 1000000)=false:=(by simp [hk]);have HE:Hid (ctC E id=0∧ctV E id=E.ck+1∧ctE E id=cmY E j):=ct_yes HHC.out HHP.out hn hk;have hwrap:IntKind.i64.wrap (E.ck+1)=E.ck+1:=(by rw [IntKind.wrap_i64];omega);clear hfull hk;go_wp2_with fail;refine Calls.mono HCALL.out ?_;rintro e w2 ⟨v,v',b0',M,rfl,hb2,hb0,hM,hgt,hgr⟩;obtain ⟨va,vc,rfl,-,hOT⟩:=hgt.own;obtain ⟨va',vc',rfl,-,hOR⟩:=hgr.own;obtain ⟨W3,hW3⟩:∃x,x=w2.alloc (.cells #[.int .i64 E.nx,.int .i64 E.ck,.slice va E.p vc,.slice va' E.q vc'] 30):=⟨_,rfl⟩;obtain ⟨HB3,hz3,HC3,HF3,HT3,HO3⟩:=HPREP.out w2 va vc b0' M va' vc' hb2 hb0 hM hOT hOR W3 hW3;have hs2:=hb2.size;have hMz:M≤w2.heap.size:=hOT.1;clear hb2 hgt hgr hOT hOR HPREP HCALL;obtain ⟨-,h1 | ⟨tb,toff,rfl,ht1,ht2,htf,l,hh,hd,hc⟩⟩:=HT3.out
    · omega
    obtain ⟨-,-,ui,uc,⟨y0,y1,y2,y3,y4⟩,-,-⟩:=hc j hj;obtain ⟨c0,c1,c2,c3⟩:=HC3.out;have cf:=HF3.out;clear hc hd b0 b1 b2 b3 x4;go_upto_region 9 with fail;rw [←hW3];clear hW3;have HW3z:Hid (W3.heap.size=w2.heap.size+1):=hz3;obtain ⟨S2,hS2⟩:∃x,x=(W3.setCell ⟨tb,toff+j*5+2,none⟩ (.int .i64 2)).setCell ⟨tb,toff+j*5+4,none⟩ (.slice none 0 0):=⟨_,rfl⟩;have y4':(W3.setCell ⟨tb,toff+j*5+2,none⟩ (.int .i64 2)).cell? ⟨tb,toff+j*5+4,none⟩=some (.slice ui (E.T j).n uc):=(setO (by omega)).trans y4
    have hw2:Writes tb (tb+1) W3 S2:=by
      rw [hS2];exact Writes.setCell (Writes.setCell (Writes.refl _ _ _) (p:=⟨tb,toff+j*5+2,none⟩) (Nat.le_refl _) (Nat.lt_succ_self _) _) (p:=⟨tb,toff+j*5+4,none⟩) (Nat.le_refl _) (Nat.lt_succ_self _) _
    have hz2:S2.heap.size=w2.heap.size+1:=(by rw [hS2,←hz3];simp [World.setCell]);have z3:S2.cell? ⟨tb,toff+j*5+3,none⟩=some (.int .i64 (E.T j).dn):=(by rw [hS2,setO (by omega),setO (by omega)];exact y3)
    have hfz:∀i,S2.frozen? ⟨tb,i,none⟩=false:=fun i=>by rw [hS2,World.frozen?_setCell,World.frozen?_setCell];exact htf i
    have HT2:Hid (OwnTx S2 b0' M (some ⟨tb,toff,none⟩) E.p (upf E.T j ⟨(E.T j).id,(E.T j).am,2,(E.T j).dn,0,(E.T j).U⟩)):=by
      refine HT3.out.put (ui:=none) (uc:=0) hj hw2 (fun o' ho=>by rw [hS2,setO (by omega),setO (by omega)]) (fun i=>by rw [hS2,World.frozen?_setCell,World.frozen?_setCell]) ⟨?_,?_,?_,z3,?_⟩ rfl
      · rw [hS2,setO (by omega),setO (by omega)];exact y0
      · rw [hS2,setO (by omega),setO (by omega)];exact y1
      · rw [hS2,setO (by omega)];exact setS y2
      · rw [hS2];exact setS y4'
    have HO2:Hid (OwnRw S2 M w2.heap.size va' E.q E.R):=HO3.out.writes hw2 (.inr (by omega));have HB2:Hid (Below W.heap.size W S2):=Writes.below HB3.out hw2 (by omega);have HC2:Hid (Box4 S2 w2.heap.size (.int .i64 E.nx) (.int .i64 E.ck) (.slice (some ⟨tb,toff,none⟩) E.p vc) (.slice va' E.q vc')):=HC3.out.writes hw2 (.inr (by omega));have HF2:Hid (∀i,S2.frozen? ⟨w2.heap.size,i,none⟩=false):=fun i=>(World.frozen?_of_block (w:=W3) (a:=⟨w2.heap.size,i,none⟩) (hw2.block w2.heap.size (by omega) (.inr (by omega)))).trans (cf i);go_upto_region 10 with fail;rw [←hS2];clear hS2 hw2 y0 y1 y2 y3 y4 y4' c0 c1 c2 c3 cf HT3 HO3 HB3 HC3 HF3 hz3 htf;obtain ⟨c0,c1,c2,c3⟩:=HC2.out;have cf:=HF2.out;obtain ⟨S3,hS3⟩:∃x,x=S2.setCell ⟨w2.heap.size,1,none⟩ (.int .i64 (E.ck+1)):=⟨_,rfl⟩;have hw3:Writes w2.heap.size (w2.heap.size+1) S2 S3:=(by rw [hS3];exact Writes.setCell (Writes.refl _ _ _) (p:=⟨w2.heap.size,1,none⟩) (Nat.le_refl _) (Nat.lt_succ_self _) _);have hz4:S3.heap.size=w2.heap.size+1:=(by rw [hS3,←hz2];simp [World.setCell])
    have HC3:Hid (Box4 S3 w2.heap.size (.int .i64 E.nx) (.int .i64 (E.ck+1)) (.slice (some ⟨tb,toff,none⟩) E.p vc) (.slice va' E.q vc')):=by
      rw [hS3];exact ⟨(setO (by omega)).trans c0,setS c1,(setO (by omega)).trans c2,(setO (by omega)).trans c3⟩
    have HF3:Hid (∀i,S3.frozen? ⟨w2.heap.size,i,none⟩=false):=fun i=>by rw [hS3,World.frozen?_setCell];exact cf i
    have z3':S3.cell? ⟨tb,toff+j*5+3,none⟩=some (.int .i64 (E.T j).dn):=(hw3.cell (by omega) (.inl (by omega)) _).trans z3
    have hfz':∀i,S3.frozen? ⟨tb,i,none⟩=false:=fun i=>by rw [hS3,World.frozen?_setCell];exact hfz i
    have HT3:Hid (OwnTx S3 b0' M (some ⟨tb,toff,none⟩) E.p (upf E.T j ⟨(E.T j).id,(E.T j).am,2,(E.T j).dn,0,(E.T j).U⟩)):=HT2.out.writes hw3 (.inl hMz);have HO3:Hid (OwnRw S3 M w2.heap.size va' E.q E.R):=HO2.out.writes hw3 (.inl (Nat.le_refl _));have HB3:Hid (Below W.heap.size W S3):=Writes.below HB2.out hw3 hs2;go_upto_region 12 with fail;rw [←hS3];clear hS3 hw3 z3 hfz c0 c1 c2 c3 cf HT2 HO2 HB2 HC2 HF2 hz2;obtain ⟨c0,c1,c2,c3⟩:=HC3.out;obtain ⟨S4,hS4⟩:∃x,x=S3.setCell ⟨tb,toff+j*5+3,none⟩ (.int .i64 (E.ck+1)):=⟨_,rfl⟩;have hw4:Writes tb (tb+1) S3 S4:=(by rw [hS4];exact Writes.setCell (Writes.refl _ _ _) (p:=⟨tb,toff+j*5+3,none⟩) (Nat.le_refl _) (Nat.lt_succ_self _) _);have hz5:S4.heap.size=w2.heap.size+1:=(by rw [hS4,←hz4];simp [World.setCell]);have z4:S4.cell? ⟨tb,toff+j*5+3,none⟩=some (.int .i64 (E.ck+1)):=(by rw [hS4];exact setS z3');have HC4:Hid (Box4 S4 w2.heap.size (.int .i64 E.nx) (.int .i64 (E.ck+1)) (.slice (some ⟨tb,toff,none⟩) E.p vc) (.slice va' E.q vc')):=HC3.out.writes hw4 (.inr (by omega))
    have HT4:Hid (OwnTx S4 b0' M (some ⟨tb,toff,none⟩) E.p (cmY E j).T):=by
      obtain ⟨-,k1 | ⟨tb2,toff2,ha,-,-,-,l2,hh2,-,hc2⟩⟩:=HT3.out
      · omega
      simp only [Option.some.injEq,Addr.mk.injEq,and_true] at ha;obtain ⟨rfl,rfl⟩:=ha;obtain ⟨-,-,ui2,uc2,hq,-,hq2⟩:=hc2 j hj;rw [upf_eq] at hq;obtain ⟨q0,q1,q2,q3,q4⟩:=hq
      have g:∀o',o'≠toff+j*5+3→S4.cell? ⟨tb,o',none⟩=S3.cell? ⟨tb,o',none⟩:=fun o' ho=>by rw [hS4,setO (by omega)]
      refine (HT3.out.put (t:=⟨(E.T j).id,(E.T j).am,2,E.ck+1,0,(E.T j).U⟩) (ui:=ui2) (uc:=uc2) hj hw4 (fun o' ho=>g o' (by omega)) (fun i=>by rw [hS4,World.frozen?_setCell]) ⟨(g _ (by omega)).trans q0,(g _ (by omega)).trans q1,(g _ (by omega)).trans q2,z4,(g _ (by omega)).trans q4⟩ rfl).congr fun i hi=>?_;show upf (upf E.T j _) j _ i=upf E.T j _ i
      by_cases e:i=j
      · subst e;rw [upf_eq,upf_eq]
      · rw [upf_ne _ _ e,upf_ne _ _ e,upf_ne _ _ e]
    have HO4:Hid (OwnRw S4 M w2.heap.size va' E.q E.R):=HO3.out.writes hw4 (.inr (by omega));have HB4':Hid (Below W.heap.size W S4):=Writes.below HB3.out hw4 (by omega);go_upto_region 13 with fail;rw [←hS4];clear hS4 hw4 z3' hfz' c0 c1 c2 c3 HT3 HO3 HB3 HC3 HF3 hz4;obtain ⟨c0,c1,c2,c3⟩:=HC4.out;go_wp2_with fail;refine (commitRows_any E.q E.R va' vc' id (E.ck+1) M w2.heap.size S4 (by omega) HO4.out).mono ?_;rintro e w5 ⟨rfl,hw5,ho5⟩;have HCz:Hid (Box4 w5 w2.heap.size (.int .i64 E.nx) (.int .i64 (E.ck+1)) (.slice (some ⟨tb,toff,none⟩) E.p vc) (.slice va' E.q vc')):=HC4.out.writes hw5 (.inr (Nat.le_refl _));have z5:w5.cell? ⟨tb,toff+j*5+3,none⟩=some (.int .i64 (E.ck+1)):=(hw5.cell (by omega) (.inl (by omega)) _).trans z4;have HTz:Hid (OwnTx w5 b0' M (some ⟨tb,toff,none⟩) (cmY E j).p (cmY E j).T):=HT4.out.writes hw5 (.inl (Nat.le_refl _));have HBz:Hid (Below W.heap.size W w5):=Writes.below HB4'.out hw5 (by omega);have HOz:Hid (OwnRw w5 M w2.heap.size va' (cmY E j).q (cmY E j).R):=(by rw [←hid] at ho5;exact ho5);have hz6:w2.heap.size+1≤w5.heap.size:=(by have:=hw5.size;omega);clear hw5 ho5 HT4 HO4 HB4' HC4 z4 c0 c1 c2 c3;obtain ⟨c0,c1,c2,c3⟩:=HCz.out;obtain ⟨r0,r1,r2,r3,r4,r5⟩:=HR6.out.below HBz.out;have rf:∀i,w5.frozen? ⟨w.heap.size+1,i,none⟩=false:=fun i=>((bcell2 HBz.out).2 _ _ (by omega)).trans (HRF.out i)
    have HF:Hid (∀w7,Writes (w.heap.size+1) (w.heap.size+2) w5 w7→w7.heap.size=w5.heap.size→ERes (ctC E id) (ctV E id) (ctE E id) w (.returned (.agg #[.int .i64 0,.int .i64 (E.ck+1),.int .i64 E.nx,.int .i64 (E.ck+1),.slice (some ⟨tb,toff,none⟩) E.p vc,.slice va' E.q vc'])) w7):=fun w7 hw hs7=>by
      rw [HE.out.1,HE.out.2.1,HE.out.2.2];exact eres_own (E':=cmY E j) (below_then HBW.out HBz.out) (by omega) (by omega) hM hMz (by omega) (by omega) HTz.out HOz.out hw hs7
    clear HTz HOz HCz;go_wp2_with fail;go_region
    all_goals
      go_wp2_with fail;refine bodyPost_ret (v:=.agg #[.int .i64 0,.int .i64 (E.ck+1),.int .i64 E.nx,.int .i64 (E.ck+1),.slice (some ⟨tb,toff,none⟩) E.p vc,.slice va' E.q vc']) (by simp [results,Tryz.results41,go_sem, *]) rfl ?_;refine HF.out _ ?_ (by simp [World.setCell])
      repeat (first | with_reducible exact Writes.refl _ _ _ | with_reducible apply Writes.drew1 | with_reducible refine Writes.setCell ?_ (by first | omega | (simp <;> omega)) (by first | omega | (simp <;> omega)) _)
  · have hn0:¬((0:Int)<((E.T j).n:Int)):=by omega
    have HE:Hid (ctC E id=0∧ctV E id=(E.T j).dn∧ctE E id=cmN E j):=ct_no HHC.out HHP.out hn;clear hfull;go_wp2_with fail;refine Calls.mono HCALL.out ?_;rintro e w2 ⟨v,v',b0',M,rfl,hb2,hb0,hM,hgt,hgr⟩;obtain ⟨va,vc,rfl,-,hOT⟩:=hgt.own;obtain ⟨va',vc',rfl,-,hOR⟩:=hgr.own;obtain ⟨W3,hW3⟩:∃x,x=w2.alloc (.cells #[.int .i64 E.nx,.int .i64 E.ck,.slice va E.p vc,.slice va' E.q vc'] 30):=⟨_,rfl⟩;obtain ⟨HB3,hz3,HC3,HF3,HT3,HO3⟩:=HPREP.out w2 va vc b0' M va' vc' hb2 hb0 hM hOT hOR W3 hW3;have hs2:=hb2.size;have hMz:M≤w2.heap.size:=hOT.1;clear hb2 hgt hgr hOT hOR HPREP HCALL;obtain ⟨-,h1 | ⟨tb,toff,rfl,ht1,ht2,htf,l,hh,hd,hc⟩⟩:=HT3.out
    · omega
    obtain ⟨-,-,ui,uc,⟨y0,y1,y2,y3,y4⟩,-,-⟩:=hc j hj;obtain ⟨c0,c1,c2,c3⟩:=HC3.out;have cf:=HF3.out;clear hc hd b0 b1 b2 b3 x4;go_upto_region 9 with fail;rw [←hW3];clear hW3;have HW3z:Hid (W3.heap.size=w2.heap.size+1):=hz3;obtain ⟨S2,hS2⟩:∃x,x=(W3.setCell ⟨tb,toff+j*5+2,none⟩ (.int .i64 2)).setCell ⟨tb,toff+j*5+4,none⟩ (.slice none 0 0):=⟨_,rfl⟩;have y4':(W3.setCell ⟨tb,toff+j*5+2,none⟩ (.int .i64 2)).cell? ⟨tb,toff+j*5+4,none⟩=some (.slice ui (E.T j).n uc):=(setO (by omega)).trans y4
    have hw2:Writes tb (tb+1) W3 S2:=by
      rw [hS2];exact Writes.setCell (Writes.setCell (Writes.refl _ _ _) (p:=⟨tb,toff+j*5+2,none⟩) (Nat.le_refl _) (Nat.lt_succ_self _) _) (p:=⟨tb,toff+j*5+4,none⟩) (Nat.le_refl _) (Nat.lt_succ_self _) _
    have hz2:S2.heap.size=w2.heap.size+1:=(by rw [hS2,←hz3];simp [World.setCell]);have z3:S2.cell? ⟨tb,toff+j*5+3,none⟩=some (.int .i64 (E.T j).dn):=(by rw [hS2,setO (by omega),setO (by omega)];exact y3)
    have hfz:∀i,S2.frozen? ⟨tb,i,none⟩=false:=fun i=>by rw [hS2,World.frozen?_setCell,World.frozen?_setCell];exact htf i
    have HT2:Hid (OwnTx S2 b0' M (some ⟨tb,toff,none⟩) E.p (upf E.T j ⟨(E.T j).id,(E.T j).am,2,(E.T j).dn,0,(E.T j).U⟩)):=by
      refine HT3.out.put (ui:=none) (uc:=0) hj hw2 (fun o' ho=>by rw [hS2,setO (by omega),setO (by omega)]) (fun i=>by rw [hS2,World.frozen?_setCell,World.frozen?_setCell]) ⟨?_,?_,?_,z3,?_⟩ rfl
      · rw [hS2,setO (by omega),setO (by omega)];exact y0
      · rw [hS2,setO (by omega),setO (by omega)];exact y1
      · rw [hS2,setO (by omega)];exact setS y2
      · rw [hS2];exact setS y4'
    have HO2:Hid (OwnRw S2 M w2.heap.size va' E.q E.R):=HO3.out.writes hw2 (.inr (by omega));have HB2:Hid (Below W.heap.size W S2):=Writes.below HB3.out hw2 (by omega);have HC2:Hid (Box4 S2 w2.heap.size (.int .i64 E.nx) (.int .i64 E.ck) (.slice (some ⟨tb,toff,none⟩) E.p vc) (.slice va' E.q vc')):=HC3.out.writes hw2 (.inr (by omega));have HF2:Hid (∀i,S2.frozen? ⟨w2.heap.size,i,none⟩=false):=fun i=>(World.frozen?_of_block (w:=W3) (a:=⟨w2.heap.size,i,none⟩) (hw2.block w2.heap.size (by omega) (.inr (by omega)))).trans (cf i);go_upto_region 10 with fail;rw [←hS2];clear hS2 hw2 y0 y1 y2 y3 y4 y4' c0 c1 c2 c3 cf HT3 HO3 HB3 HC3 HF3 hz3 htf;have HCz:Hid (Box4 S2 w2.heap.size (.int .i64 E.nx) (.int .i64 E.ck) (.slice (some ⟨tb,toff,none⟩) E.p vc) (.slice va' E.q vc')):=HC2.out;have HTz:Hid (OwnTx S2 b0' M (some ⟨tb,toff,none⟩) (cmN E j).p (cmN E j).T):=HT2.out;have HBz:Hid (Below W.heap.size W S2):=HB2.out;have HOz:Hid (OwnRw S2 M w2.heap.size va' (cmN E j).q (cmN E j).R):=HO2.out;clear HT2 HO2 HB2 HC2 HF2 hfz;obtain ⟨c0,c1,c2,c3⟩:=HCz.out;obtain ⟨r0,r1,r2,r3,r4,r5⟩:=HR6.out.below HBz.out;have rf:∀i,S2.frozen? ⟨w.heap.size+1,i,none⟩=false:=fun i=>((bcell2 HBz.out).2 _ _ (by omega)).trans (HRF.out i)
    have HF:Hid (∀w7,Writes (w.heap.size+1) (w.heap.size+2) S2 w7→w7.heap.size=S2.heap.size→ERes (ctC E id) (ctV E id) (ctE E id) w (.returned (.agg #[.int .i64 0,.int .i64 ((E.T j).dn),.int .i64 E.nx,.int .i64 (E.ck),.slice (some ⟨tb,toff,none⟩) E.p vc,.slice va' E.q vc'])) w7):=fun w7 hw hs7=>by
      rw [HE.out.1,HE.out.2.1,HE.out.2.2];exact eres_own (E':=cmN E j) (below_then HBW.out HBz.out) (by omega) (by omega) hM hMz (by omega) (by omega) HTz.out HOz.out hw hs7
    clear HTz HOz HCz;go_wp2_with fail;go_region
    all_goals
      go_wp2_with fail;refine bodyPost_ret (v:=.agg #[.int .i64 0,.int .i64 ((E.T j).dn),.int .i64 E.nx,.int .i64 (E.ck),.slice (some ⟨tb,toff,none⟩) E.p vc,.slice va' E.q vc']) (by simp [results,Tryz.results41,go_sem, *]) rfl ?_;refine HF.out _ ?_ (by simp [World.setCell])
      repeat (first | with_reducible exact Writes.refl _ _ _ | with_reducible apply Writes.drew1 | with_reducible refine Writes.setCell ?_ (by first | omega | (simp <;> omega)) (by first | omega | (simp <;> omega)) _)
end Go.Proofs.YtjdodbiphijjgaaGreat
