import Derived.Test.YtjdodbiphijjgaaGreatJBox
namespace Go.Proofs.YtjdodbiphijjgaaGreat
open Go.ChangeShapes Go.WideShapes Go.ChangeAt Go.RowKit Go.Deep Go.Joins
set_option linter.unusedVariables false
set_option maxRecDepth 20000
theorem cellsI:Tryz.prog.cellsOf 2=1:=by kernel_rfl
structure Ud where
  k:Int
  h:Bool
  g:Bool
  v:Int
def CU (w:World) (b o:Nat) (r:Ud):Prop:=
  w.cell? ⟨b,o,none⟩=some (.int .i64 r.k)∧w.cell? ⟨b,o+1,none⟩=some (.bool r.h)∧w.cell? ⟨b,o+2,none⟩=some (.bool r.g)∧w.cell? ⟨b,o+3,none⟩=some (.int .i64 r.v)
theorem CU.block {w w':World} {b o:Nat} {r:Ud} (h:CU w b o r) (e:w'.heap[b]? = w.heap[b]?):CU w' b o r:=by
  have g:∀i,w'.cell? ⟨b,i,none⟩=w.cell? ⟨b,i,none⟩:=fun i=>World.cell?_of_block (w:=w) (a:=⟨b,i,none⟩) e;obtain ⟨h0,h1,h2,h3⟩:=h;exact ⟨(g _).trans h0,(g _).trans h1,(g _).trans h2,(g _).trans h3⟩
def UndsAt (w:World) (a:Option Addr) (n:Nat) (R:Nat→Ud):Prop:=n=0∨∃b off,a=some ⟨b,off,none⟩∧b<w.heap.size∧∀i,i<n→CU w b (off+i*4) (R i)
def RowU (w:World) (b off n:Nat) (R:Nat→Ud):Prop:=(∀i,i<n→CU w b (off+i*4) (R i))∧∀i,w.frozen? ⟨b,i,none⟩=false
def OwnU (w:World) (lo hi:Nat) (a:Option Addr) (n:Nat) (R:Nat→Ud):Prop:=hi≤w.heap.size∧(n=0∨∃b off,a=some ⟨b,off,none⟩∧lo≤b∧b<hi∧RowU w b off n R)
theorem UndsAt.below {w w':World} {a:Option Addr} {n:Nat} {R:Nat→Ud} (h:UndsAt w a n R) (hb:Below w.heap.size w w'):UndsAt w' a n R:=by
  rcases h with h | ⟨b,off,ha,hl,hc⟩
  · exact .inl h
  · exact .inr ⟨b,off,ha,Nat.lt_of_lt_of_le hl hb.size,fun i hi=>(hc i hi).block (hb.block _ hl)⟩
theorem OwnU.at {w:World} {lo hi:Nat} {a:Option Addr} {n:Nat} {R:Nat→Ud} (h:OwnU w lo hi a n R):UndsAt w a n R:=by
  obtain ⟨h0,h1 | ⟨b,off,ha,_,hl,hc⟩⟩:=h
  · exact .inl h1
  · exact .inr ⟨b,off,ha,by omega,hc.1⟩
theorem OwnU.congr {w:World} {lo hi:Nat} {a:Option Addr} {n:Nat} {R S:Nat→Ud} (h:OwnU w lo hi a n R) (e:∀i,i<n→R i=S i):OwnU w lo hi a n S:=by
  obtain ⟨h0,h1 | ⟨b,off,ha,h2,hl,hc⟩⟩:=h
  · exact ⟨h0,.inl h1⟩
  · exact ⟨h0,.inr ⟨b,off,ha,h2,hl,fun i hi=>by rw [←e i hi];exact hc.1 i hi,hc.2⟩⟩
theorem OwnU.writes {w w':World} {lo hi lo' hi':Nat} {a:Option Addr} {n:Nat} {R:Nat→Ud} (h:OwnU w lo hi a n R) (hw:Writes lo' hi' w w') (hd:hi≤lo'∨hi'≤lo):OwnU w' lo hi a n R:=by
  obtain ⟨h0,h1 | ⟨b,off,ha,h2,hl,hc⟩⟩:=h
  · exact ⟨Nat.le_trans h0 hw.size,.inl h1⟩
  · have hb:=hw.block b (by omega) (by omega);exact ⟨Nat.le_trans h0 hw.size,.inr ⟨b,off,ha,h2,hl,fun i hi=>(hc.1 i hi).block hb,fun i=>(World.frozen?_of_block (w:=w) (a:=⟨b,i,none⟩) hb).trans (hc.2 i)⟩⟩
theorem OwnU.wide {w:World} {lo hi lo' hi':Nat} {a:Option Addr} {n:Nat} {R:Nat→Ud} (h:OwnU w lo hi a n R) (h1:lo'≤lo) (h2:hi≤hi') (h3:hi'≤w.heap.size):OwnU w lo' hi' a n R:=by
  obtain ⟨h0,h4 | ⟨b,off,ha,h5,hl,r⟩⟩:=h
  · exact ⟨h3,.inl h4⟩
  · exact ⟨h3,.inr ⟨b,off,ha,by omega,by omega,r⟩⟩
theorem rowU_block {w w':World} {b off n:Nat} {R:Nat→Ud} (h:RowU w b off n R) (hb:w'.heap[b]? = w.heap[b]?):RowU w' b off n R:=
  ⟨fun i hi=>(h.1 i hi).block hb,fun i=>(World.frozen?_of_block (w:=w) (a:=⟨b,i,none⟩) hb).trans (h.2 i)⟩
theorem infoU:(Tryz.prog.info? 176).map (fun i=>(i.zero,i.size,i.bytes))=some (some (.agg #[.int .i64 0,.bool false,.bool false,.int .i64 0]),4,24):=by kernel_rfl
def zU:Ud:=⟨0,false,false,0⟩
def smf (f:Nat→Nat):Nat→Nat
  | 0=>0
  | k+1=>smf f k+f k
def upf {α:Type} (f:Nat→α) (j:Nat) (x:α) (i:Nat):α:=if i=j then x else f i
theorem upf_eq {α:Type} (f:Nat→α) (j:Nat) (x:α):upf f j x j=x:=by simp [upf]
theorem upf_ne {α:Type} (f:Nat→α) {j i:Nat} (x:α) (h:i≠j):upf f j x i=f i:=by simp [upf,h]
theorem bcell2 {w w':World} (hb:Below w.heap.size w w'):(∀b i,b<w.heap.size→w'.cell? ⟨b,i,none⟩=w.cell? ⟨b,i,none⟩)∧(∀b i,b<w.heap.size→w'.frozen? ⟨b,i,none⟩=w.frozen? ⟨b,i,none⟩):=
  ⟨fun b i h=>hb.cell (p:=⟨b,i,none⟩) h,fun b i h=>hb.frozen (p:=⟨b,i,none⟩) h⟩
structure Tx where
  id:Int
  am:Int
  st:Int
  dn:Int
  n:Nat
  U:Nat→Ud
def zTx:Tx:=⟨0,0,0,0,0,fun _=>zU⟩
def CTx (w:World) (b o:Nat) (t:Tx) (ai:Option Addr) (ci:Nat):Prop:=
  w.cell? ⟨b,o,none⟩=some (.int .i64 t.id)∧w.cell? ⟨b,o+1,none⟩=some (.int .i64 t.am)∧w.cell? ⟨b,o+2,none⟩=some (.int .i64 t.st)∧w.cell? ⟨b,o+3,none⟩=some (.int .i64 t.dn)∧w.cell? ⟨b,o+4,none⟩=some (.slice ai t.n ci)
theorem CTx.block {w w':World} {b o:Nat} {t:Tx} {ai:Option Addr} {ci:Nat} (h:CTx w b o t ai ci) (e:w'.heap[b]? = w.heap[b]?):CTx w' b o t ai ci:=by
  have g:∀i,w'.cell? ⟨b,i,none⟩=w.cell? ⟨b,i,none⟩:=fun i=>World.cell?_of_block (w:=w) (a:=⟨b,i,none⟩) e;obtain ⟨h0,h1,h2,h3,h4⟩:=h;exact ⟨(g _).trans h0,(g _).trans h1,(g _).trans h2,(g _).trans h3,(g _).trans h4⟩
def TxsAt (w:World) (a:Option Addr) (n:Nat) (T:Nat→Tx):Prop:=
  n=0∨∃b off,a=some ⟨b,off,none⟩∧b<w.heap.size∧∀i,i<n→∃ai ci,CTx w b (off+i*5) (T i) ai ci∧UndsAt w ai (T i).n (T i).U∧(T i).n≤ci
theorem TxsAt.below {w w':World} {a:Option Addr} {n:Nat} {T:Nat→Tx} (h:TxsAt w a n T) (hb:Below w.heap.size w w'):TxsAt w' a n T:=by
  rcases h with h | ⟨b,off,ha,hl,hc⟩
  · exact .inl h
  · refine .inr ⟨b,off,ha,Nat.lt_of_lt_of_le hl hb.size,fun i hi=>?_⟩;obtain ⟨ai,ci,h1,h2,h3⟩:=hc i hi;exact ⟨ai,ci,h1.block (hb.block _ hl),h2.below hb,h3⟩
def OwnTx (w:World) (lo hi:Nat) (a:Option Addr) (n:Nat) (T:Nat→Tx):Prop:=
  hi≤w.heap.size∧(n=0∨∃b off,a=some ⟨b,off,none⟩∧lo≤b∧b<hi∧(∀i,w.frozen? ⟨b,i,none⟩=false)∧∃l h:Nat→Nat,(∀i j,i<n→j<n→i≠j→h i≤l j∨h j≤l i)∧
    ∀i,i<n→(b<l i∨h i≤b)∧(h i=0∨lo≤l i∧h i≤hi)∧∃ai ci,CTx w b (off+i*5) (T i) ai ci∧(T i).n≤ci∧OwnU w (l i) (h i) ai (T i).n (T i).U)
theorem OwnTx.at {w:World} {lo hi:Nat} {a:Option Addr} {n:Nat} {T:Nat→Tx} (h:OwnTx w lo hi a n T):TxsAt w a n T:=by
  obtain ⟨h0,h1 | ⟨b,off,ha,_,hl,_,l,h,_,hc⟩⟩:=h
  · exact .inl h1
  · refine .inr ⟨b,off,ha,by omega,fun i hi=>?_⟩;obtain ⟨_,_,ai,ci,k1,k2,k3⟩:=hc i hi;exact ⟨ai,ci,k1,k3.at,k2⟩
theorem OwnTx.writes {w w':World} {lo hi lo' hi':Nat} {a:Option Addr} {n:Nat} {T:Nat→Tx} (h:OwnTx w lo hi a n T) (hw:Writes lo' hi' w w') (hd:hi≤lo'∨hi'≤lo):OwnTx w' lo hi a n T:=by
  obtain ⟨h0,h1 | ⟨b,off,ha,hlo,hl,hf,l,h,hj,hc⟩⟩:=h
  · exact ⟨Nat.le_trans h0 hw.size,.inl h1⟩
  · have e:=hw.block b (by omega) (by omega);refine ⟨Nat.le_trans h0 hw.size,.inr ⟨b,off,ha,hlo,hl,fun i=>(World.frozen?_of_block (w:=w) (a:=⟨b,i,none⟩) e).trans (hf i),l,h,hj,fun i hi=>?_⟩⟩;obtain ⟨k0,k1,ai,ci,k2,k3,k4⟩:=hc i hi;exact ⟨k0,k1,ai,ci,k2.block e,k3,k4.writes hw (by omega)⟩
theorem OwnTx.below {w w':World} {lo hi:Nat} {a:Option Addr} {n:Nat} {T:Nat→Tx} (h:OwnTx w lo hi a n T) (hb:Below w.heap.size w w'):OwnTx w' lo hi a n T:=
  h.writes (Writes.of_below (lo:=hi) (hi:=hi) hb) (.inl (Nat.le_refl _))
theorem OwnTx.congr {w:World} {lo hi:Nat} {a:Option Addr} {n:Nat} {T T':Nat→Tx} (h:OwnTx w lo hi a n T) (e:∀i,i<n→T i=T' i):OwnTx w lo hi a n T':=by
  obtain ⟨h0,h1 | ⟨b,off,ha,hlo,hl,hf,l,h,hj,hc⟩⟩:=h
  · exact ⟨h0,.inl h1⟩
  · exact ⟨h0,.inr ⟨b,off,ha,hlo,hl,hf,l,h,hj,fun i hi=>by rw [←e i hi];exact hc i hi⟩⟩
theorem infoTx:(Tryz.prog.info? 127).map (fun i=>(i.zero,i.size,i.bytes))=some (some (.agg #[.int .i64 0,.int .i64 0,.int .i64 0,.int .i64 0,.slice none 0 0]),5,56):=by kernel_rfl
def smTx (T:Nat→Tx) (k:Nat):Nat:=smf (fun i=>(T i).n) k
structure Rw where
  key:Int
  n:Nat
  U:Nat→Vr
def zRw:Rw:=⟨0,0,fun _=>zV⟩
def CRw (w:World) (b o:Nat) (t:Rw) (ai:Option Addr) (ci:Nat):Prop:=
  w.cell? ⟨b,o,none⟩=some (.int .i64 t.key)∧w.cell? ⟨b,o+1,none⟩=some (.slice ai t.n ci)
theorem CRw.block {w w':World} {b o:Nat} {t:Rw} {ai:Option Addr} {ci:Nat} (h:CRw w b o t ai ci) (e:w'.heap[b]? = w.heap[b]?):CRw w' b o t ai ci:=by
  have g:∀i,w'.cell? ⟨b,i,none⟩=w.cell? ⟨b,i,none⟩:=fun i=>World.cell?_of_block (w:=w) (a:=⟨b,i,none⟩) e;obtain ⟨h0,h1⟩:=h;exact ⟨(g _).trans h0,(g _).trans h1⟩
def RwsAt (w:World) (a:Option Addr) (n:Nat) (T:Nat→Rw):Prop:=
  n=0∨∃b off,a=some ⟨b,off,none⟩∧b<w.heap.size∧∀i,i<n→∃ai ci,CRw w b (off+i*2) (T i) ai ci∧VersAt w ai (T i).n (T i).U∧(T i).n≤ci
theorem RwsAt.below {w w':World} {a:Option Addr} {n:Nat} {T:Nat→Rw} (h:RwsAt w a n T) (hb:Below w.heap.size w w'):RwsAt w' a n T:=by
  rcases h with h | ⟨b,off,ha,hl,hc⟩
  · exact .inl h
  · refine .inr ⟨b,off,ha,Nat.lt_of_lt_of_le hl hb.size,fun i hi=>?_⟩;obtain ⟨ai,ci,h1,h2,h3⟩:=hc i hi;exact ⟨ai,ci,h1.block (hb.block _ hl),h2.below hb,h3⟩
def OwnRw (w:World) (lo hi:Nat) (a:Option Addr) (n:Nat) (T:Nat→Rw):Prop:=
  hi≤w.heap.size∧(n=0∨∃b off,a=some ⟨b,off,none⟩∧lo≤b∧b<hi∧(∀i,w.frozen? ⟨b,i,none⟩=false)∧∃l h:Nat→Nat,(∀i j,i<n→j<n→i≠j→h i≤l j∨h j≤l i)∧
    ∀i,i<n→(b<l i∨h i≤b)∧(h i=0∨lo≤l i∧h i≤hi)∧∃ai ci,CRw w b (off+i*2) (T i) ai ci∧(T i).n≤ci∧Own4 w (l i) (h i) ai (T i).n (T i).U)
theorem OwnRw.at {w:World} {lo hi:Nat} {a:Option Addr} {n:Nat} {T:Nat→Rw} (h:OwnRw w lo hi a n T):RwsAt w a n T:=by
  obtain ⟨h0,h1 | ⟨b,off,ha,_,hl,_,l,h,_,hc⟩⟩:=h
  · exact .inl h1
  · refine .inr ⟨b,off,ha,by omega,fun i hi=>?_⟩;obtain ⟨_,_,ai,ci,k1,k2,k3⟩:=hc i hi;exact ⟨ai,ci,k1,k3.at,k2⟩
theorem OwnRw.writes {w w':World} {lo hi lo' hi':Nat} {a:Option Addr} {n:Nat} {T:Nat→Rw} (h:OwnRw w lo hi a n T) (hw:Writes lo' hi' w w') (hd:hi≤lo'∨hi'≤lo):OwnRw w' lo hi a n T:=by
  obtain ⟨h0,h1 | ⟨b,off,ha,hlo,hl,hf,l,h,hj,hc⟩⟩:=h
  · exact ⟨Nat.le_trans h0 hw.size,.inl h1⟩
  · have e:=hw.block b (by omega) (by omega);refine ⟨Nat.le_trans h0 hw.size,.inr ⟨b,off,ha,hlo,hl,fun i=>(World.frozen?_of_block (w:=w) (a:=⟨b,i,none⟩) e).trans (hf i),l,h,hj,fun i hi=>?_⟩⟩;obtain ⟨k0,k1,ai,ci,k2,k3,k4⟩:=hc i hi;exact ⟨k0,k1,ai,ci,k2.block e,k3,k4.writes hw (by omega)⟩
theorem OwnRw.below {w w':World} {lo hi:Nat} {a:Option Addr} {n:Nat} {T:Nat→Rw} (h:OwnRw w lo hi a n T) (hb:Below w.heap.size w w'):OwnRw w' lo hi a n T:=
  h.writes (Writes.of_below (lo:=hi) (hi:=hi) hb) (.inl (Nat.le_refl _))
theorem OwnRw.congr {w:World} {lo hi:Nat} {a:Option Addr} {n:Nat} {T T':Nat→Rw} (h:OwnRw w lo hi a n T) (e:∀i,i<n→T i=T' i):OwnRw w lo hi a n T':=by
  obtain ⟨h0,h1 | ⟨b,off,ha,hlo,hl,hf,l,h,hj,hc⟩⟩:=h
  · exact ⟨h0,.inl h1⟩
  · exact ⟨h0,.inr ⟨b,off,ha,hlo,hl,hf,l,h,hj,fun i hi=>by rw [←e i hi];exact hc i hi⟩⟩
theorem infoRw:(Tryz.prog.info? 173).map (fun i=>(i.zero,i.size,i.bytes))=some (some (.agg #[.int .i64 0,.slice none 0 0]),2,32):=by kernel_rfl
def smRw (T:Nat→Rw) (k:Nat):Nat:=smf (fun i=>(T i).n) k
structure En where
  nx:Int
  ck:Int
  p:Nat
  T:Nat→Tx
  q:Nat
  R:Nat→Rw
def EngAt (w:World) (a a':Option Addr) (E:En):Prop:=TxsAt w a E.p E.T∧RwsAt w a' E.q E.R
theorem EngAt.below {w w':World} {a a':Option Addr} {E:En} (h:EngAt w a a' E) (hb:Below w.heap.size w w'):EngAt w' a a' E:=⟨h.1.below hb,h.2.below hb⟩
def OwnE (w:World) (lo hi:Nat) (a a':Option Addr) (E:En):Prop:=
  hi≤w.heap.size∧∃l1 h1 l2 h2,lo≤l1∧h1≤hi∧lo≤l2∧h2≤hi∧(h1≤l2∨h2≤l1)∧OwnTx w l1 h1 a E.p E.T∧OwnRw w l2 h2 a' E.q E.R
theorem OwnE.at {w:World} {lo hi:Nat} {a a':Option Addr} {E:En} (h:OwnE w lo hi a a' E):EngAt w a a' E:=by
  obtain ⟨_,l1,h1,l2,h2,_,_,_,_,_,hp,hl⟩:=h;exact ⟨hp.at,hl.at⟩
theorem OwnE.writes {w w':World} {lo hi lo' hi':Nat} {a a':Option Addr} {E:En} (h:OwnE w lo hi a a' E) (hw:Writes lo' hi' w w') (hd:hi≤lo'∨hi'≤lo):OwnE w' lo hi a a' E:=by
  obtain ⟨h0,l1,h1,l2,h2,k1,k2,k3,k4,k5,hp,hl⟩:=h;exact ⟨Nat.le_trans h0 hw.size,l1,h1,l2,h2,k1,k2,k3,k4,k5,hp.writes hw (by omega),hl.writes hw (by omega)⟩
theorem OwnE.below {w w':World} {lo hi:Nat} {a a':Option Addr} {E:En} (h:OwnE w lo hi a a' E) (hb:Below w.heap.size w w'):OwnE w' lo hi a a' E:=
  h.writes (Writes.of_below (lo:=hi) (hi:=hi) hb) (.inl (Nat.le_refl _))
structure SmallE (E:En):Prop where
  p:E.p≤1048576
  q:E.q≤1048576
  t:∀i,i<E.p→(E.T i).n≤1048576
  r:∀i,i<E.q→(E.R i).n≤1048576
  st:smTx E.T E.p≤1048576
  sr:smRw E.R E.q≤1048576
end Go.Proofs.YtjdodbiphijjgaaGreat
