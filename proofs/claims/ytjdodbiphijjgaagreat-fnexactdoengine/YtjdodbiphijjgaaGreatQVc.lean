import Derived.Test.YtjdodbiphijjgaaGreatQBox
namespace Go.Proofs.YtjdodbiphijjgaaGreat
open Go.ChangeShapes Go.WideShapes Go.ChangeAt Go.RowKit Go.Deep Go.Joins
set_option linter.unusedVariables false
set_option maxRecDepth 20000
def mV (m:Int) (i:Nat):Vr:=⟨m+i*4,m+i*4+1,(m+i*4+2) % 3 == 0,m+i*4+3⟩
def mkV (m:Int) (R:Nat→Vr) (j i:Nat):Vr:=if i<j then mV m i else R i
theorem mkV_step (m:Int) (R:Nat→Vr) (k i:Nat):(if i=k then mV m k else mkV m R k i)=mkV m R (k+1) i:=by
  unfold mkV
  by_cases e:i=k
  · subst e;simp
  · rw [if_neg e];have:(i<k+1)↔(i<k):=(by omega);simp only [this]
set_option maxHeartbeats 4000000 in
theorem markVersionS_some (n:Nat) (R:Nat→Vr) (b off cap lo hi:Nat) (m:Int) (w:World) (hn:n≤1048576) (hm1:0≤m) (hm2:m≤8796093022208) (hlo:lo≤b) (hhi:b<hi) (hr:Row4 w b off n R) :
    Calls Tryz.prog 126 #[.slice (some ⟨b,off,none⟩) n cap,.int .i64 m] w fun e w'=>
      e=.returned (.int .i64 (m+n*4))∧Writes lo hi w w'∧Row4 w' b off n (mkV m R n):=by
  have HR0:Hid (Row4 w b off n (mkV m R 0)):=⟨fun i h=>by have:=hr.1 i h;simpa [mkV] using this,hr.2⟩;clear hr;go_enter Tryz.func126,Tryz.ntmps126;go_wp2_with fail;go_loopw [1,5] (fun q i wr=>∃k:Nat,k≤n∧i=.int .i64 k∧q=.int .i64 (m+k*4)∧Hid (Writes lo hi w wr)∧Hid (Row4 wr b off n (mkV m R k))) (fun _ i _=>n-(intOf i).toNat)
  case atStart=>exact ⟨0,Nat.zero_le _,rfl,by go_num,Writes.refl _ _ _,HR0⟩
  case round=>
    obtain ⟨k,hk0,rfl,rfl,HB,HR⟩:=hrel
    by_cases hlt:k<n
    · obtain ⟨h0,h1,h2,h3⟩:=HR.out.1 k hlt;have hf:=HR.out.2;generalize mkV m R k k=r at *;have hk':(k:Int)<(n:Int):=(by omega);have hk1:(0:Int)≤(k:Int):=(by omega);have g1:IntKind.i64.wrap (m+k*4+1)=m+k*4+1:=(by rw [IntKind.wrap_i64];omega);have g2:IntKind.i64.wrap (m+k*4+1+1)=m+k*4+2:=(by rw [IntKind.wrap_i64];omega);have g3:IntKind.i64.wrap (m+k*4+2+1)=m+k*4+3:=(by rw [IntKind.wrap_i64];omega);have g4:IntKind.i64.wrap (m+k*4+3+1)=m+k*4+4:=(by rw [IntKind.wrap_i64];omega);go_wp2_with fail;go_roundw
      case rel=>exact ⟨k+1,hlt,by go_num,by go_num,set4_writes (r:=mV m k) (o:=off+k*4) HB.out hlo hhi,row4_congr (row4_set (r:=mV m k) hlt HR.out) (fun i _=>mkV_step m R k i)⟩
      case measure=>simp [intOf];omega
    · have hkn:k=n:=by omega
      have HR1:Hid (Row4 wr b off n (mkV m R n)):=(by have h:=HR.out;rw [hkn] at h;exact h);have hnl:¬((k:Int)<(n:Int)):=(by omega);go_wp2_with fail;go_ret;exact ⟨rfl,HB.out,HR1.out⟩
theorem markVersionS_zero (a:Option Addr) (cap:Nat) (m:Int) (w:World):Calls Tryz.prog 126 #[.slice a 0 cap,.int .i64 m] w fun e w'=>e=.returned (.int .i64 m)∧w'=w:=by
  go_enter Tryz.func126,Tryz.ntmps126;go_wp2;go_loop [1,5] (fun q i=>q=.int .i64 m∧i=.int .i64 0) (fun _ _=>0)
  case atStart=>exact ⟨rfl,rfl⟩
  case round=>
    obtain ⟨rfl,rfl⟩:=hrel;go_wp2;go_ret;exact ⟨rfl,rfl⟩
theorem markVersionS_any (n:Nat) (R:Nat→Vr) (a:Option Addr) (cap lo hi:Nat) (m:Int) (w:World) (hn:n≤1048576) (hm1:0≤m) (hm2:m≤8796093022208) (h:Own4 w lo hi a n R) :
    Calls Tryz.prog 126 #[.slice a n cap,.int .i64 m] w fun e w'=>e=.returned (.int .i64 (m+n*4))∧Writes lo hi w w'∧Own4 w' lo hi a n (mV m):=by
  obtain ⟨h0,rfl | ⟨b,off,rfl,hlo,hhi,hr⟩⟩:=h
  · refine (markVersionS_zero a cap m w).mono ?_;rintro e w' ⟨rfl,rfl⟩;exact ⟨ret_int (by omega),Writes.refl _ _ _,h0,.inl rfl⟩
  · refine (markVersionS_some n R b off cap lo hi m w hn hm1 hm2 hlo hhi hr).mono ?_;rintro e w' ⟨rfl,hw,h1,h2⟩;exact ⟨rfl,hw,Nat.le_trans h0 hw.size,.inr ⟨b,off,rfl,hlo,hhi,fun i hi=>by have:=h1 i hi;simpa [mkV,hi] using this,h2⟩⟩
set_option maxHeartbeats 4000000 in
theorem heldVersionS_some (n b off cap:Nat) (m:Int) (w:World) (hn:n≤1048576) (hm1:0≤m) (hm2:m≤8796093022208) (hc:∀i,i<n→C4 w b (off+i*4) (mV m i)) :
    Calls Tryz.prog 186 #[.slice (some ⟨b,off,none⟩) n cap,.int .i64 m] w fun e w'=>e=.returned (.int .i64 (m+n*4))∧w'=w:=by
  have HC:Hid (∀i,i<n→C4 w b (off+i*4) (mV m i)):=hc;clear hc;go_enter Tryz.func186,Tryz.ntmps186;go_wp2_with fail;go_loop [1,5] (fun q i=>∃k:Nat,k≤n∧i=.int .i64 k∧q=.int .i64 (m+k*4)) (fun _ i=>n-(intOf i).toNat)
  case atStart=>exact ⟨0,Nat.zero_le _,rfl,by go_num⟩
  case round=>
    obtain ⟨k,hk0,rfl,rfl⟩:=hrel
    by_cases hlt:k<n
    · obtain ⟨h0,h1,h2,h3⟩:=HC.out k hlt;simp only [mV] at h0 h1 h2 h3;have hk':(k:Int)<(n:Int):=(by omega);have hk1:(0:Int)≤(k:Int):=(by omega);have g1:IntKind.i64.wrap (m+k*4+1)=m+k*4+1:=(by rw [IntKind.wrap_i64];omega);have g2:IntKind.i64.wrap (m+k*4+1+1)=m+k*4+2:=(by rw [IntKind.wrap_i64];omega);have g3:IntKind.i64.wrap (m+k*4+2+1)=m+k*4+3:=(by rw [IntKind.wrap_i64];omega);have g4:IntKind.i64.wrap (m+k*4+3+1)=m+k*4+4:=(by rw [IntKind.wrap_i64];omega);have e3:(((m+k*4+2) % 3 == 0) != ((m+k*4+2) % 3 == 0))=false:=(by simp);go_wp2_with fail;go_round
      case rel=>exact ⟨k+1,hlt,by go_num,by go_num⟩
      case measure=>simp [intOf];omega
    · have hkn:k=n:=by omega
      have hnl:¬((k:Int)<(n:Int)):=(by omega);go_wp2_with fail;go_ret;exact ⟨rfl,rfl⟩
theorem heldVersionS_zero (a:Option Addr) (cap:Nat) (m:Int) (w:World):Calls Tryz.prog 186 #[.slice a 0 cap,.int .i64 m] w fun e w'=>e=.returned (.int .i64 m)∧w'=w:=by
  go_enter Tryz.func186,Tryz.ntmps186;go_wp2;go_loop [1,5] (fun q i=>q=.int .i64 m∧i=.int .i64 0) (fun _ _=>0)
  case atStart=>exact ⟨rfl,rfl⟩
  case round=>
    obtain ⟨rfl,rfl⟩:=hrel;go_wp2;go_ret;exact ⟨rfl,rfl⟩
theorem heldVersionS_any (n:Nat) (a:Option Addr) (cap:Nat) (m:Int) (w:World) (hn:n≤1048576) (hm1:0≤m) (hm2:m≤8796093022208) (h:VersAt w a n (mV m)) :
    Calls Tryz.prog 186 #[.slice a n cap,.int .i64 m] w fun e w'=>e=.returned (.int .i64 (m+n*4))∧w'=w:=by
  rcases h with rfl | ⟨b,off,rfl,_,hc⟩
  · refine (heldVersionS_zero a cap m w).mono ?_;rintro e w' ⟨rfl,rfl⟩;exact ⟨ret_int (by omega),rfl⟩
  · exact heldVersionS_some n b off cap m w hn hm1 hm2 hc
theorem cellsVer:Tryz.prog.cellsOf 265=4:=by kernel_rfl
theorem cellsI:Tryz.prog.cellsOf 2=1:=by kernel_rfl
theorem cellsB:Tryz.prog.cellsOf 4=1:=by kernel_rfl
structure Ud where
  k:Int
  h:Bool
  g:Bool
  v:Int
def CU (w:World) (b o:Nat) (r:Ud):Prop:=
  w.cell? ⟨b,o,none⟩=some (.int .i64 r.k)∧w.cell? ⟨b,o+1,none⟩=some (.bool r.h)∧w.cell? ⟨b,o+2,none⟩=some (.bool r.g)∧w.cell? ⟨b,o+3,none⟩=some (.int .i64 r.v)
theorem CU.block {w w':World} {b o:Nat} {r:Ud} (h:CU w b o r) (e:w'.heap[b]? = w.heap[b]?):CU w' b o r:=by
  have g:∀i,w'.cell? ⟨b,i,none⟩=w.cell? ⟨b,i,none⟩:=fun i=>World.cell?_of_block (w:=w) (a:=⟨b,i,none⟩) e;obtain ⟨h0,h1,h2,h3⟩:=h;exact ⟨(g _).trans h0,(g _).trans h1,(g _).trans h2,(g _).trans h3⟩
def UndsAt (w:World) (a:Option Addr) (n:Nat) (R:Nat→Ud):Prop:=n=0∨∃b off,a=some ⟨b,off,none⟩∧b<w.heap.size∧∀i,i<n→CU w b (off+i*4) (R i)
def RowU (w:World) (b off n:Nat) (R:Nat→Ud):Prop:=(∀i,i<n→CU w b (off+i*4) (R i))∧∀i,w.frozen? ⟨b,i,none⟩=false
def OwnU (w:World) (lo hi:Nat) (a:Option Addr) (n:Nat) (R:Nat→Ud):Prop:=hi≤w.heap.size∧(n=0∨∃b off,a=some ⟨b,off,none⟩∧lo≤b∧b<hi∧RowU w b off n R)
theorem UndsAt.below {w w':World} {a:Option Addr} {n:Nat} {R:Nat→Ud} (h:UndsAt w a n R) (hb:Below w.heap.size w w'):UndsAt w' a n R:=by
  rcases h with h | ⟨b,off,ha,hl,hc⟩
  · exact .inl h
  · exact .inr ⟨b,off,ha,Nat.lt_of_lt_of_le hl hb.size,fun i hi=>(hc i hi).block (hb.block _ hl)⟩
theorem OwnU.at {w:World} {lo hi:Nat} {a:Option Addr} {n:Nat} {R:Nat→Ud} (h:OwnU w lo hi a n R):UndsAt w a n R:=by
  obtain ⟨h0,h1 | ⟨b,off,ha,_,hl,hc⟩⟩:=h
  · exact .inl h1
  · exact .inr ⟨b,off,ha,by omega,hc.1⟩
theorem OwnU.congr {w:World} {lo hi:Nat} {a:Option Addr} {n:Nat} {R S:Nat→Ud} (h:OwnU w lo hi a n R) (e:∀i,i<n→R i=S i):OwnU w lo hi a n S:=by
  obtain ⟨h0,h1 | ⟨b,off,ha,h2,hl,hc⟩⟩:=h
  · exact ⟨h0,.inl h1⟩
  · exact ⟨h0,.inr ⟨b,off,ha,h2,hl,fun i hi=>by rw [←e i hi];exact hc.1 i hi,hc.2⟩⟩
theorem OwnU.writes {w w':World} {lo hi lo' hi':Nat} {a:Option Addr} {n:Nat} {R:Nat→Ud} (h:OwnU w lo hi a n R) (hw:Writes lo' hi' w w') (hd:hi≤lo'∨hi'≤lo):OwnU w' lo hi a n R:=by
  obtain ⟨h0,h1 | ⟨b,off,ha,h2,hl,hc⟩⟩:=h
  · exact ⟨Nat.le_trans h0 hw.size,.inl h1⟩
  · have hb:=hw.block b (by omega) (by omega);exact ⟨Nat.le_trans h0 hw.size,.inr ⟨b,off,ha,h2,hl,fun i hi=>(hc.1 i hi).block hb,fun i=>(World.frozen?_of_block (w:=w) (a:=⟨b,i,none⟩) hb).trans (hc.2 i)⟩⟩
theorem OwnU.wide {w:World} {lo hi lo' hi':Nat} {a:Option Addr} {n:Nat} {R:Nat→Ud} (h:OwnU w lo hi a n R) (h1:lo'≤lo) (h2:hi≤hi') (h3:hi'≤w.heap.size):OwnU w lo' hi' a n R:=by
  obtain ⟨h0,h4 | ⟨b,off,ha,h5,hl,r⟩⟩:=h
  · exact ⟨h3,.inl h4⟩
  · exact ⟨h3,.inr ⟨b,off,ha,by omega,by omega,r⟩⟩
def setU (w:World) (b o:Nat) (r:Ud):World:=
  (((w.setCell ⟨b,o,none⟩ (.int .i64 r.k)).setCell ⟨b,o+1,none⟩ (.bool r.h)).setCell ⟨b,o+2,none⟩ (.bool r.g)).setCell ⟨b,o+3,none⟩ (.int .i64 r.v)
theorem setU_far {w:World} {b o o':Nat} {r:Ud} (h:o'<o∨o+3<o'):(setU w b o r).cell? ⟨b,o',none⟩=w.cell? ⟨b,o',none⟩:=by
  unfold setU;rw [setO (by omega),setO (by omega),setO (by omega),setO (by omega)]
theorem setU_same {w:World} {b o:Nat} {r r0:Ud} (h:CU w b o r0):CU (setU w b o r) b o r:=by
  obtain ⟨h0,h1,h2,h3⟩:=h;unfold setU;refine ⟨?_,?_,?_,?_⟩
  · rw [setO (by omega),setO (by omega),setO (by omega)];exact setS h0
  · rw [setO (by omega),setO (by omega)];exact setS (by rw [setO (by omega)];exact h1)
  · rw [setO (by omega)];exact setS (by rw [setO (by omega),setO (by omega)];exact h2)
  · exact setS (by rw [setO (by omega),setO (by omega),setO (by omega)];exact h3)
theorem setU_frozen {w:World} {b o:Nat} {r:Ud} (h:∀i,w.frozen? ⟨b,i,none⟩=false):∀i,(setU w b o r).frozen? ⟨b,i,none⟩=false:=fun i=>by
  unfold setU;rw [World.frozen?_setCell,World.frozen?_setCell,World.frozen?_setCell,World.frozen?_setCell];exact h i
theorem setU_writes {lo hi:Nat} {w wr:World} {b o:Nat} {r:Ud} (h:Writes lo hi w wr) (h1:lo≤b) (h2:b<hi):Writes lo hi w (setU wr b o r):=by
  unfold setU;exact (((h.setCell (p:=⟨b,_,none⟩) h1 h2 _).setCell (p:=⟨b,_,none⟩) h1 h2 _).setCell (p:=⟨b,_,none⟩) h1 h2 _).setCell (p:=⟨b,_,none⟩) h1 h2 _
theorem setU_below {n:Nat} {w wr:World} {b o:Nat} {r:Ud} (h:Below n w wr) (h1:n≤b):Below n w (setU wr b o r):=by
  unfold setU;exact (((h.setCell (p:=⟨b,_,none⟩) h1 _).setCell (p:=⟨b,_,none⟩) h1 _).setCell (p:=⟨b,_,none⟩) h1 _).setCell (p:=⟨b,_,none⟩) h1 _
theorem setU_size {w:World} {b o:Nat} {r:Ud}:(setU w b o r).heap.size=w.heap.size:=by simp [setU,World.setCell]
theorem rowU_set {w:World} {b off n k:Nat} {R:Nat→Ud} {r:Ud} (hlt:k<n) (h:RowU w b off n R):RowU (setU w b (off+k*4) r) b off n (fun i=>if i=k then r else R i):=by
  refine ⟨fun i hi=>?_,setU_frozen h.2⟩
  by_cases e:i=k
  · subst e;simp only [if_true];exact setU_same (h.1 i hi)
  · simp only [if_neg e];have g:∀j,j<4→(setU w b (off+k*4) r).cell? ⟨b,off+i*4+j,none⟩=w.cell? ⟨b,off+i*4+j,none⟩:=fun j hj=>setU_far (by omega);obtain ⟨h0,h1,h2,h3⟩:=h.1 i hi;exact ⟨(g 0 (by omega)).trans h0,(g 1 (by omega)).trans h1,(g 2 (by omega)).trans h2,(g 3 (by omega)).trans h3⟩
theorem rowU_congr {w:World} {b off n:Nat} {R S:Nat→Ud} (h:RowU w b off n R) (e:∀i,i<n→R i=S i):RowU w b off n S:=⟨fun i hi=>by rw [←e i hi];exact h.1 i hi,h.2⟩
theorem rowU_block {w w':World} {b off n:Nat} {R:Nat→Ud} (h:RowU w b off n R) (hb:w'.heap[b]? = w.heap[b]?):RowU w' b off n R:=
  ⟨fun i hi=>(h.1 i hi).block hb,fun i=>(World.frozen?_of_block (w:=w) (a:=⟨b,i,none⟩) hb).trans (h.2 i)⟩
theorem toUndo_any (t:Int) (a:Bool) (g:Bool) (v:Int) (w:World):Calls Tryz.prog 214 #[.agg #[.int .i64 t,.bool a,.bool g,.int .i64 v]] w fun e w'=>
    e=.returned (.agg #[.int .i64 t,.bool a,.bool g,.int .i64 v])∧Below w.heap.size w w':=by
  go_enter Tryz.func214,Tryz.ntmps214;go_wp2_with fail;refine bodyPost_ret (v:=.agg #[.int .i64 t,.bool a,.bool g,.int .i64 v]) (by simp [results,Tryz.results214,go_sem]) rfl ⟨rfl,?_⟩
  repeat (first | exact Below.refl _ _ | apply Below.drew | refine Below.setCell ?_ (by first | omega | (simp <;> omega)) _ | refine Below.alloc ?_ (by first | omega | (simp <;> omega)) _)
theorem infoU:(Tryz.prog.info? 176).map (fun i=>(i.zero,i.size,i.bytes))=some (some (.agg #[.int .i64 0,.bool false,.bool false,.int .i64 0]),4,24):=by kernel_rfl
theorem run_make_unds (n:Nat) (hn:n≤1048576) (w:World) :
    (Instr.makeSlice 125 (.int .i64 (n:Int)) (.int .i64 (n:Int))).run Tryz.prog w=.ok (.slice (some ⟨w.heap.size,0,none⟩) n n) (w.alloc (.cells (madeCells #[.int .i64 0,.bool false,.bool false,.int .i64 0] (n*4)) 176)):=by
  obtain ⟨i,hi,hzz⟩:=Option.map_eq_some_iff.1 infoU;simp only [Prod.mk.injEq] at hzz;obtain ⟨hz,hs,hb⟩:=hzz;have hr:=run_make (P:=Tryz.prog) w 125 176 i _ Tryz.underlying125 hi hz .i64 .i64 n n (by omega) (Int.le_refl _) (by rw [hb];omega) (by omega);simp only [Int.toNat_natCast,hs] at hr;exact hr
def zU:Ud:=⟨0,false,false,0⟩
theorem made_unds (w:World) (n:Nat):RowU (w.alloc (.cells (madeCells #[.int .i64 0,.bool false,.bool false,.int .i64 0] (n*4)) 176)) w.heap.size 0 n (fun _=>zU):=by
  refine ⟨fun i hi=>?_,fun i=>by simp [go_sem]⟩
  have c:∀j,j<4→(w.alloc (.cells (madeCells #[.int .i64 0,.bool false,.bool false,.int .i64 0] (n*4)) 176)).cell? ⟨w.heap.size,0+i*4+j,none⟩=(#[Value.int .i64 0,.bool false,.bool false,.int .i64 0])[j]?:=fun j hj=>by
    have l:i*4+j<n*4:=(by omega);have:j=0∨j=1∨j=2∨j=3:=(by omega)
    rcases this with rfl | rfl | rfl | rfl <;> simp [go_sem,madeCells] <;> exact ⟨_,by rw [Array.getElem?_range,if_pos (by omega)],by simp [Nat.add_mod]⟩
  exact ⟨c 0 (by omega),c 1 (by omega),c 2 (by omega),c 3 (by omega)⟩
def toKU (R:Nat→Ud) (k i:Nat):Ud:=if i<k then R i else zU
theorem toKU_step (R:Nat→Ud) (k i:Nat):(if i=k then R k else toKU R k i)=toKU R (k+1) i:=by
  unfold toKU
  by_cases e:i=k
  · subst e;simp
  · rw [if_neg e];have:(i<k+1)↔(i<k):=(by omega);simp only [this]
set_option maxHeartbeats 1000000 in
theorem toUndoS_some (n:Nat) (R:Nat→Ud) (b off cap:Nat) (w:World) (hn:n≤1048576) (hbl:b<w.heap.size) (hc:∀i,i<n→CU w b (off+i*4) (R i)) :
    Calls Tryz.prog 177 #[.slice (some ⟨b,off,none⟩) n cap] w fun e w'=>
      e=.returned (.slice (some ⟨w.heap.size,0,none⟩) n n)∧Below w.heap.size w w'∧w.heap.size<w'.heap.size∧RowU w' w.heap.size 0 n R:=by
  have HC:Hid (∀i,i<n→CU w b (off+i*4) (R i)):=hc;have hmk:=run_make_unds n hn;clear hc;go_enter Tryz.func177,Tryz.ntmps177;go_wp2_with fail;clear hmk;go_loopw [4] (fun i wr=>∃k:Nat,k≤n∧i=.int .i64 k∧Hid (Below w.heap.size w wr)∧w.heap.size<wr.heap.size∧Hid (RowU wr w.heap.size 0 n (toKU R k))) (fun i _=>n-(intOf i).toNat)
  case atStart=>exact ⟨0,Nat.zero_le _,rfl,(Below.refl _ _).alloc (Nat.le_refl _) _,by simp,rowU_congr (made_unds w n) (fun i _=>by simp [toKU])⟩
  case round=>
    obtain ⟨k,hk0,rfl,HB,hsz,HR⟩:=hrel
    by_cases hlt:k<n
    · obtain ⟨x0,x1,x2,x3⟩:=(HC.out k hlt).block (HB.out.block _ hbl);obtain ⟨y0,y1,y2,y3⟩:=HR.out.1 k hlt;have hf:=HR.out.2;have hlt':(k:Int)<(n:Int):=(by omega);have hk1:(0:Int)≤(k:Int):=(by omega);generalize hr0:toKU R k k=r0 at *;go_wp2_with fail;refine (toUndo_any _ _ _ _ wr).mono ?_;rintro e w1 ⟨rfl,hb1⟩;have HR1:Hid (RowU w1 w.heap.size 0 n (toKU R k)):=rowU_block HR.out (hb1.block _ hsz);have HB1:Hid (Below w.heap.size w w1):=below_then HB.out hb1;have hs1:w.heap.size<w1.heap.size:=Nat.lt_of_lt_of_le hsz hb1.size;replace y0:=cell_below y0 hb1;replace y1:=cell_below y1 hb1;replace y2:=cell_below y2 hb1;replace y3:=cell_below y3 hb1;replace hf:=HR1.out.2;rw [Nat.zero_add] at y0 y1 y2 y3;clear x0 x1 x2 x3 hb1;go_wp2_with fail;go_roundw
      case rel=>
        have HS:RowU (setU w1 w.heap.size (0+k*4) (R k)) w.heap.size 0 n (toKU R (k+1)):=rowU_congr (rowU_set hlt HR1.out) (fun i _=>toKU_step R k i);rw [Nat.zero_add] at HS;exact ⟨k+1,hlt,by go_num,setU_below (r:=R k) (o:=k*4) HB1.out (Nat.le_refl _),by rw [show ((((w1.setCell ⟨w.heap.size,k*4,none⟩ (.int .i64 (R k).k)).setCell ⟨w.heap.size,k*4+1,none⟩ (.bool (R k).h)).setCell ⟨w.heap.size,k*4+2,none⟩ (.bool (R k).g)).setCell ⟨w.heap.size,k*4+3,none⟩ (.int .i64 (R k).v)).heap.size=w1.heap.size from setU_size (r:=R k) (o:=k*4)];exact hs1,HS⟩
      case measure=>simp [intOf];omega
    · have hkn:k=n:=by omega
      have HR1:Hid (RowU wr w.heap.size 0 n R):=rowU_congr HR.out (fun i hi=>by simp [toKU,hkn,hi]);have hnl:¬((k:Int)<(n:Int)):=(by omega);go_wp2_with fail;go_ret;exact ⟨rfl,HB.out,hsz,HR1.out⟩
theorem toUndoS_zero (a:Option Addr) (cap:Nat) (w:World) :
    Calls Tryz.prog 177 #[.slice a 0 cap] w fun e w'=>e=.returned (.slice (some ⟨w.heap.size,0,none⟩) 0 0)∧Below w.heap.size w w'∧w.heap.size<w'.heap.size:=by
  have hmk:∀w,(Instr.makeSlice 125 (.int .i64 0) (.int .i64 0)).run Tryz.prog w=.ok (.slice (some ⟨w.heap.size,0,none⟩) 0 0) (w.alloc (.cells #[] 176)):=fun w=>by
    have h:=run_make_unds 0 (by omega) w;rw [made_none] at h;exact h
  go_enter Tryz.func177,Tryz.ntmps177;go_wp2;go_loop [4] (fun i=>i=.int .i64 0) (fun _=>0)
  case atStart=>exact rfl
  case round=>
    obtain rfl:=hrel;go_wp2;go_ret;exact ⟨rfl,(Below.refl _ _).alloc (Nat.le_refl _) _,by simp⟩
theorem toUndoS_any (n:Nat) (R:Nat→Ud) (a:Option Addr) (cap:Nat) (w:World) (hn:n≤1048576) (h:UndsAt w a n R) :
    Calls Tryz.prog 177 #[.slice a n cap] w fun e w'=>∃b,
      e=.returned (.slice (some ⟨b,0,none⟩) n n)∧Below w.heap.size w w'∧OwnU w' w.heap.size w'.heap.size (some ⟨b,0,none⟩) n R:=by
  rcases h with rfl | ⟨b,off,rfl,hbl,hc⟩
  · refine (toUndoS_zero a cap w).mono ?_;rintro e w' ⟨rfl,hb,_⟩;exact ⟨_,rfl,hb,Nat.le_refl _,.inl rfl⟩
  · refine (toUndoS_some n R b off cap w hn hbl hc).mono ?_;rintro e w' ⟨rfl,hb,hs,hr⟩;exact ⟨_,rfl,hb,Nat.le_refl _,.inr ⟨_,0,rfl,Nat.le_refl _,hs,hr⟩⟩
theorem eqUndo_same (t:Int) (a:Bool) (g:Bool) (v:Int) (w:World) :
    Calls Tryz.prog 220 #[.agg #[.int .i64 t,.bool a,.bool g,.int .i64 v],.agg #[.int .i64 t,.bool a,.bool g,.int .i64 v]] w fun e w'=>e=.returned (.bool true)∧Below w.heap.size w w':=by
  have hb0:∀o1 o2,Below w.heap.size w ((w.alloc o1).alloc o2):=fun o1 o2=>((Below.refl _ _).alloc (Nat.le_refl _) _).alloc (by simp) _;have e1:(g != g)=false:=(by simp);have e2:(a != a)=false:=(by simp);go_enter Tryz.func220,Tryz.ntmps220;go_wp2_with fail;go_ret;exact ⟨rfl,hb0 _ _⟩
theorem eqUndoS_zero (a a':Option Addr) (cap cap':Nat) (w:World):Calls Tryz.prog 183 #[.slice a 0 cap,.slice a' 0 cap'] w fun e w'=>e=.returned (.bool true)∧Below w.heap.size w w':=by
  go_enter Tryz.func183,Tryz.ntmps183;go_wp2_with fail;go_loop [5] (fun i=>i=.int .i64 0) (fun _=>0)
  case atStart=>exact rfl
  case round=>
    obtain rfl:=hrel;go_wp2_with fail;go_ret;exact ⟨rfl,Below.refl _ _⟩
set_option maxHeartbeats 2000000 in
theorem eqUndoS_some (n:Nat) (R:Nat→Ud) (b off cap b' off' cap':Nat) (w:World) (hn:n≤1048576) (hbl:b<w.heap.size) (hbl':b'<w.heap.size) (hc:∀i,i<n→CU w b (off+i*4) (R i)) (hc':∀i,i<n→CU w b' (off'+i*4) (R i)) :
    Calls Tryz.prog 183 #[.slice (some ⟨b,off,none⟩) n cap,.slice (some ⟨b',off',none⟩) n cap'] w fun e w'=>e=.returned (.bool true)∧Below w.heap.size w w':=by
  have HC:Hid (∀i,i<n→CU w b (off+i*4) (R i)):=hc;have HC':Hid (∀i,i<n→CU w b' (off'+i*4) (R i)):=hc';have hne:((n:Int) != (n:Int))=false:=(by simp);clear hc hc';go_enter Tryz.func183,Tryz.ntmps183;go_wp2_with fail;go_loopw [5] (fun i wr=>∃k:Nat,k≤n∧i=.int .i64 k∧Hid (Below w.heap.size w wr)) (fun i _=>n-(intOf i).toNat)
  case atStart=>exact ⟨0,Nat.zero_le _,rfl,Below.refl _ _⟩
  case round=>
    obtain ⟨k,hk,rfl,HB⟩:=hrel
    by_cases hlt:k<n
    · have hlt':(k:Int)<(n:Int):=by omega
      have hk0:(0:Int)≤(k:Int):=(by omega);obtain ⟨x0,x1,x2,x3⟩:=(HC.out k hlt).block (HB.out.block _ hbl);obtain ⟨y0,y1,y2,y3⟩:=(HC'.out k hlt).block (HB.out.block _ hbl');generalize R k=r at *;go_wp2_with fail;go_region_law (first | (go_simp;go_at_call 220;refine (eqUndo_same r.k r.h r.g r.v _).mono ?_;rintro e w1 ⟨rfl,hb1⟩;have HB1:Hid (Below w.heap.size w w1):=below_then HB.out (drewB6 hb1)))
      all_goals
        go_wp2_with fail;go_roundw
        case rel=>exact ⟨k+1,hlt,by go_num,HB1⟩
        case measure=>simp [intOf];omega
    · have hnl:¬((k:Int)<(n:Int)):=by omega
      go_wp2_with fail;go_ret;exact ⟨rfl,HB.out⟩
theorem eqUndoS_any (n:Nat) (R:Nat→Ud) (a a':Option Addr) (cap cap':Nat) (w:World) (hn:n≤1048576) (h:UndsAt w a n R) (h':UndsAt w a' n R) :
    Calls Tryz.prog 183 #[.slice a n cap,.slice a' n cap'] w fun e w'=>e=.returned (.bool true)∧Below w.heap.size w w':=by
  rcases h with rfl | ⟨b,off,rfl,hl,hc⟩
  · exact eqUndoS_zero a a' cap cap' w
  · rcases h' with rfl | ⟨b',off',rfl,hl',hc'⟩
    · exact eqUndoS_zero _ a' cap cap' w
    · exact eqUndoS_some n R b off cap b' off' cap' w hn hl hl' hc hc'
def mU (m:Int) (i:Nat):Ud:=⟨m+i*4,(m+i*4+1) % 3 == 0,(m+i*4+2) % 3 == 0,m+i*4+3⟩
def mkU (m:Int) (R:Nat→Ud) (j i:Nat):Ud:=if i<j then mU m i else R i
theorem mkU_step (m:Int) (R:Nat→Ud) (k i:Nat):(if i=k then mU m k else mkU m R k i)=mkU m R (k+1) i:=by
  unfold mkU
  by_cases e:i=k
  · subst e;simp
  · rw [if_neg e];have:(i<k+1)↔(i<k):=(by omega);simp only [this]
set_option maxHeartbeats 4000000 in
theorem markUndoS_some (n:Nat) (R:Nat→Ud) (b off cap lo hi:Nat) (m:Int) (w:World) (hn:n≤1048576) (hm1:0≤m) (hm2:m≤8796093022208) (hlo:lo≤b) (hhi:b<hi) (hr:RowU w b off n R) :
    Calls Tryz.prog 125 #[.slice (some ⟨b,off,none⟩) n cap,.int .i64 m] w fun e w'=>
      e=.returned (.int .i64 (m+n*4))∧Writes lo hi w w'∧RowU w' b off n (mkU m R n):=by
  have HR0:Hid (RowU w b off n (mkU m R 0)):=⟨fun i h=>by have:=hr.1 i h;simpa [mkU] using this,hr.2⟩;clear hr;go_enter Tryz.func125,Tryz.ntmps125;go_wp2_with fail;go_loopw [1,5] (fun q i wr=>∃k:Nat,k≤n∧i=.int .i64 k∧q=.int .i64 (m+k*4)∧Hid (Writes lo hi w wr)∧Hid (RowU wr b off n (mkU m R k))) (fun _ i _=>n-(intOf i).toNat)
  case atStart=>exact ⟨0,Nat.zero_le _,rfl,by go_num,Writes.refl _ _ _,HR0⟩
  case round=>
    obtain ⟨k,hk0,rfl,rfl,HB,HR⟩:=hrel
    by_cases hlt:k<n
    · obtain ⟨h0,h1,h2,h3⟩:=HR.out.1 k hlt;have hf:=HR.out.2;generalize mkU m R k k=r at *;have hk':(k:Int)<(n:Int):=(by omega);have hk1:(0:Int)≤(k:Int):=(by omega);have g1:IntKind.i64.wrap (m+k*4+1)=m+k*4+1:=(by rw [IntKind.wrap_i64];omega);have g2:IntKind.i64.wrap (m+k*4+1+1)=m+k*4+2:=(by rw [IntKind.wrap_i64];omega);have g3:IntKind.i64.wrap (m+k*4+2+1)=m+k*4+3:=(by rw [IntKind.wrap_i64];omega);have g4:IntKind.i64.wrap (m+k*4+3+1)=m+k*4+4:=(by rw [IntKind.wrap_i64];omega);go_wp2_with fail;go_roundw
      case rel=>exact ⟨k+1,hlt,by go_num,by go_num,setU_writes (r:=mU m k) (o:=off+k*4) HB.out hlo hhi,rowU_congr (rowU_set (r:=mU m k) hlt HR.out) (fun i _=>mkU_step m R k i)⟩
      case measure=>simp [intOf];omega
    · have hkn:k=n:=by omega
      have HR1:Hid (RowU wr b off n (mkU m R n)):=(by have h:=HR.out;rw [hkn] at h;exact h);have hnl:¬((k:Int)<(n:Int)):=(by omega);go_wp2_with fail;go_ret;exact ⟨rfl,HB.out,HR1.out⟩
theorem markUndoS_zero (a:Option Addr) (cap:Nat) (m:Int) (w:World):Calls Tryz.prog 125 #[.slice a 0 cap,.int .i64 m] w fun e w'=>e=.returned (.int .i64 m)∧w'=w:=by
  go_enter Tryz.func125,Tryz.ntmps125;go_wp2;go_loop [1,5] (fun q i=>q=.int .i64 m∧i=.int .i64 0) (fun _ _=>0)
  case atStart=>exact ⟨rfl,rfl⟩
  case round=>
    obtain ⟨rfl,rfl⟩:=hrel;go_wp2;go_ret;exact ⟨rfl,rfl⟩
theorem markUndoS_any (n:Nat) (R:Nat→Ud) (a:Option Addr) (cap lo hi:Nat) (m:Int) (w:World) (hn:n≤1048576) (hm1:0≤m) (hm2:m≤8796093022208) (h:OwnU w lo hi a n R) :
    Calls Tryz.prog 125 #[.slice a n cap,.int .i64 m] w fun e w'=>e=.returned (.int .i64 (m+n*4))∧Writes lo hi w w'∧OwnU w' lo hi a n (mU m):=by
  obtain ⟨h0,rfl | ⟨b,off,rfl,hlo,hhi,hr⟩⟩:=h
  · refine (markUndoS_zero a cap m w).mono ?_;rintro e w' ⟨rfl,rfl⟩;exact ⟨ret_int (by omega),Writes.refl _ _ _,h0,.inl rfl⟩
  · refine (markUndoS_some n R b off cap lo hi m w hn hm1 hm2 hlo hhi hr).mono ?_;rintro e w' ⟨rfl,hw,h1,h2⟩;exact ⟨rfl,hw,Nat.le_trans h0 hw.size,.inr ⟨b,off,rfl,hlo,hhi,fun i hi=>by have:=h1 i hi;simpa [mkU,hi] using this,h2⟩⟩
set_option maxHeartbeats 4000000 in
theorem heldUndoS_some (n b off cap:Nat) (m:Int) (w:World) (hn:n≤1048576) (hm1:0≤m) (hm2:m≤8796093022208) (hc:∀i,i<n→CU w b (off+i*4) (mU m i)) :
    Calls Tryz.prog 185 #[.slice (some ⟨b,off,none⟩) n cap,.int .i64 m] w fun e w'=>e=.returned (.int .i64 (m+n*4))∧w'=w:=by
  have HC:Hid (∀i,i<n→CU w b (off+i*4) (mU m i)):=hc;clear hc;go_enter Tryz.func185,Tryz.ntmps185;go_wp2_with fail;go_loop [1,5] (fun q i=>∃k:Nat,k≤n∧i=.int .i64 k∧q=.int .i64 (m+k*4)) (fun _ i=>n-(intOf i).toNat)
  case atStart=>exact ⟨0,Nat.zero_le _,rfl,by go_num⟩
  case round=>
    obtain ⟨k,hk0,rfl,rfl⟩:=hrel
    by_cases hlt:k<n
    · obtain ⟨h0,h1,h2,h3⟩:=HC.out k hlt;simp only [mU] at h0 h1 h2 h3;have hk':(k:Int)<(n:Int):=(by omega);have hk1:(0:Int)≤(k:Int):=(by omega);have g1:IntKind.i64.wrap (m+k*4+1)=m+k*4+1:=(by rw [IntKind.wrap_i64];omega);have g2:IntKind.i64.wrap (m+k*4+1+1)=m+k*4+2:=(by rw [IntKind.wrap_i64];omega);have g3:IntKind.i64.wrap (m+k*4+2+1)=m+k*4+3:=(by rw [IntKind.wrap_i64];omega);have g4:IntKind.i64.wrap (m+k*4+3+1)=m+k*4+4:=(by rw [IntKind.wrap_i64];omega);have e2:(((m+k*4+1) % 3 == 0) != ((m+k*4+1) % 3 == 0))=false:=(by simp);have e3:(((m+k*4+2) % 3 == 0) != ((m+k*4+2) % 3 == 0))=false:=(by simp);go_wp2_with fail;go_round
      case rel=>exact ⟨k+1,hlt,by go_num,by go_num⟩
      case measure=>simp [intOf];omega
    · have hkn:k=n:=by omega
      have hnl:¬((k:Int)<(n:Int)):=(by omega);go_wp2_with fail;go_ret;exact ⟨rfl,rfl⟩
theorem heldUndoS_zero (a:Option Addr) (cap:Nat) (m:Int) (w:World):Calls Tryz.prog 185 #[.slice a 0 cap,.int .i64 m] w fun e w'=>e=.returned (.int .i64 m)∧w'=w:=by
  go_enter Tryz.func185,Tryz.ntmps185;go_wp2;go_loop [1,5] (fun q i=>q=.int .i64 m∧i=.int .i64 0) (fun _ _=>0)
  case atStart=>exact ⟨rfl,rfl⟩
  case round=>
    obtain ⟨rfl,rfl⟩:=hrel;go_wp2;go_ret;exact ⟨rfl,rfl⟩
theorem heldUndoS_any (n:Nat) (a:Option Addr) (cap:Nat) (m:Int) (w:World) (hn:n≤1048576) (hm1:0≤m) (hm2:m≤8796093022208) (h:UndsAt w a n (mU m)) :
    Calls Tryz.prog 185 #[.slice a n cap,.int .i64 m] w fun e w'=>e=.returned (.int .i64 (m+n*4))∧w'=w:=by
  rcases h with rfl | ⟨b,off,rfl,_,hc⟩
  · refine (heldUndoS_zero a cap m w).mono ?_;rintro e w' ⟨rfl,rfl⟩;exact ⟨ret_int (by omega),rfl⟩
  · exact heldUndoS_some n b off cap m w hn hm1 hm2 hc
theorem cellsUnd:Tryz.prog.cellsOf 263=4:=by kernel_rfl
def smf (f:Nat→Nat):Nat→Nat
  | 0=>0
  | k+1=>smf f k+f k
theorem smf_ge (f:Nat→Nat):∀n i,i<n→f i≤smf f n
  | 0,i,h=>by omega
  | n+1,i,h=>by
    by_cases e:i=n
    · subst e;simp [smf]
    · have:=smf_ge f n i (by omega);simp only [smf];omega
theorem smf_le (f:Nat→Nat) {n:Nat}:∀{i},i≤n→smf f i≤smf f n:=by
  induction n with
  | zero => intro i h; have : i = 0 := by omega
            subst this;exact Nat.le_refl _
  | succ n ih=>
    intro i h
    by_cases e:i=n+1
    · subst e;exact Nat.le_refl _
    · have:=ih (i:=i) (by omega);simp only [smf];omega
theorem smf_add (f:Nat→Nat) (c d:Nat):∀k,smf (fun i=>f i*c+d) k=smf f k*c+k*d
  | 0=>by simp [smf]
  | k+1=>by simp only [smf,smf_add f c d k,Nat.add_mul,Nat.one_mul];omega
def upf {α:Type} (f:Nat→α) (j:Nat) (x:α) (i:Nat):α:=if i=j then x else f i
theorem upf_eq {α:Type} (f:Nat→α) (j:Nat) (x:α):upf f j x j=x:=by simp [upf]
theorem upf_ne {α:Type} (f:Nat→α) {j i:Nat} (x:α) (h:i≠j):upf f j x i=f i:=by simp [upf,h]
def pref {α:Type} (f g:Nat→α) (j i:Nat):α:=if i<j then f i else g i
theorem pref_upf {α:Type} (f g:Nat→α) (j:Nat):upf (pref f g j) j (f j)=pref f g (j+1):=by
  funext i
  by_cases e:i=j
  · subst e;simp [upf,pref]
  · by_cases h:i<j
    · have:i<j+1:=by omega
      simp [upf,pref,e,h,this]
    · have:¬i<j+1:=by omega
      simp [upf,pref,e,h,this]
theorem pref_at {α:Type} (f g:Nat→α) (j:Nat):pref f g j j=g j:=by simp [pref]
theorem pref_lt {α:Type} (f g:Nat→α) {j i:Nat} (h:i<j):pref f g j i=f i:=by simp [pref,h]
theorem pref_zero {α:Type} (f g:Nat→α):pref f g 0=g:=by funext i;simp [pref]
theorem bcell2 {w w':World} (hb:Below w.heap.size w w'):(∀b i,b<w.heap.size→w'.cell? ⟨b,i,none⟩=w.cell? ⟨b,i,none⟩)∧(∀b i,b<w.heap.size→w'.frozen? ⟨b,i,none⟩=w.frozen? ⟨b,i,none⟩):=
  ⟨fun b i h=>hb.cell (p:=⟨b,i,none⟩) h,fun b i h=>hb.frozen (p:=⟨b,i,none⟩) h⟩
structure Tx where
  id:Int
  am:Int
  st:Int
  dn:Int
  n:Nat
  U:Nat→Ud
def zTx:Tx:=⟨0,0,0,0,0,fun _=>zU⟩
def CTx (w:World) (b o:Nat) (t:Tx) (ai:Option Addr) (ci:Nat):Prop:=
  w.cell? ⟨b,o,none⟩=some (.int .i64 t.id)∧w.cell? ⟨b,o+1,none⟩=some (.int .i64 t.am)∧w.cell? ⟨b,o+2,none⟩=some (.int .i64 t.st)∧w.cell? ⟨b,o+3,none⟩=some (.int .i64 t.dn)∧w.cell? ⟨b,o+4,none⟩=some (.slice ai t.n ci)
theorem CTx.block {w w':World} {b o:Nat} {t:Tx} {ai:Option Addr} {ci:Nat} (h:CTx w b o t ai ci) (e:w'.heap[b]? = w.heap[b]?):CTx w' b o t ai ci:=by
  have g:∀i,w'.cell? ⟨b,i,none⟩=w.cell? ⟨b,i,none⟩:=fun i=>World.cell?_of_block (w:=w) (a:=⟨b,i,none⟩) e;obtain ⟨h0,h1,h2,h3,h4⟩:=h;exact ⟨(g _).trans h0,(g _).trans h1,(g _).trans h2,(g _).trans h3,(g _).trans h4⟩
def TxsAt (w:World) (a:Option Addr) (n:Nat) (T:Nat→Tx):Prop:=
  n=0∨∃b off,a=some ⟨b,off,none⟩∧b<w.heap.size∧∀i,i<n→∃ai ci,CTx w b (off+i*5) (T i) ai ci∧UndsAt w ai (T i).n (T i).U∧(T i).n≤ci
theorem TxsAt.below {w w':World} {a:Option Addr} {n:Nat} {T:Nat→Tx} (h:TxsAt w a n T) (hb:Below w.heap.size w w'):TxsAt w' a n T:=by
  rcases h with h | ⟨b,off,ha,hl,hc⟩
  · exact .inl h
  · refine .inr ⟨b,off,ha,Nat.lt_of_lt_of_le hl hb.size,fun i hi=>?_⟩;obtain ⟨ai,ci,h1,h2,h3⟩:=hc i hi;exact ⟨ai,ci,h1.block (hb.block _ hl),h2.below hb,h3⟩
def OwnTx (w:World) (lo hi:Nat) (a:Option Addr) (n:Nat) (T:Nat→Tx):Prop:=
  hi≤w.heap.size∧(n=0∨∃b off,a=some ⟨b,off,none⟩∧lo≤b∧b<hi∧(∀i,w.frozen? ⟨b,i,none⟩=false)∧∃l h:Nat→Nat,(∀i j,i<n→j<n→i≠j→h i≤l j∨h j≤l i)∧
    ∀i,i<n→(b<l i∨h i≤b)∧(h i=0∨lo≤l i∧h i≤hi)∧∃ai ci,CTx w b (off+i*5) (T i) ai ci∧(T i).n≤ci∧OwnU w (l i) (h i) ai (T i).n (T i).U)
theorem OwnTx.at {w:World} {lo hi:Nat} {a:Option Addr} {n:Nat} {T:Nat→Tx} (h:OwnTx w lo hi a n T):TxsAt w a n T:=by
  obtain ⟨h0,h1 | ⟨b,off,ha,_,hl,_,l,h,_,hc⟩⟩:=h
  · exact .inl h1
  · refine .inr ⟨b,off,ha,by omega,fun i hi=>?_⟩;obtain ⟨_,_,ai,ci,k1,k2,k3⟩:=hc i hi;exact ⟨ai,ci,k1,k3.at,k2⟩
theorem OwnTx.writes {w w':World} {lo hi lo' hi':Nat} {a:Option Addr} {n:Nat} {T:Nat→Tx} (h:OwnTx w lo hi a n T) (hw:Writes lo' hi' w w') (hd:hi≤lo'∨hi'≤lo):OwnTx w' lo hi a n T:=by
  obtain ⟨h0,h1 | ⟨b,off,ha,hlo,hl,hf,l,h,hj,hc⟩⟩:=h
  · exact ⟨Nat.le_trans h0 hw.size,.inl h1⟩
  · have e:=hw.block b (by omega) (by omega);refine ⟨Nat.le_trans h0 hw.size,.inr ⟨b,off,ha,hlo,hl,fun i=>(World.frozen?_of_block (w:=w) (a:=⟨b,i,none⟩) e).trans (hf i),l,h,hj,fun i hi=>?_⟩⟩;obtain ⟨k0,k1,ai,ci,k2,k3,k4⟩:=hc i hi;exact ⟨k0,k1,ai,ci,k2.block e,k3,k4.writes hw (by omega)⟩
theorem OwnTx.below {w w':World} {lo hi:Nat} {a:Option Addr} {n:Nat} {T:Nat→Tx} (h:OwnTx w lo hi a n T) (hb:Below w.heap.size w w'):OwnTx w' lo hi a n T:=
  h.writes (Writes.of_below (lo:=hi) (hi:=hi) hb) (.inl (Nat.le_refl _))
theorem OwnTx.wide {w:World} {lo hi lo' hi':Nat} {a:Option Addr} {n:Nat} {T:Nat→Tx} (h:OwnTx w lo hi a n T) (h1:lo'≤lo) (h2:hi≤hi') (h3:hi'≤w.heap.size):OwnTx w lo' hi' a n T:=by
  obtain ⟨h0,h4 | ⟨b,off,ha,hlo,hl,hf,l,h,hj,hc⟩⟩:=h
  · exact ⟨h3,.inl h4⟩
  · refine ⟨h3,.inr ⟨b,off,ha,by omega,by omega,hf,l,h,hj,fun i hi=>?_⟩⟩;obtain ⟨k0,k1,r⟩:=hc i hi;exact ⟨k0,by omega,r⟩
theorem OwnTx.congr {w:World} {lo hi:Nat} {a:Option Addr} {n:Nat} {T T':Nat→Tx} (h:OwnTx w lo hi a n T) (e:∀i,i<n→T i=T' i):OwnTx w lo hi a n T':=by
  obtain ⟨h0,h1 | ⟨b,off,ha,hlo,hl,hf,l,h,hj,hc⟩⟩:=h
  · exact ⟨h0,.inl h1⟩
  · exact ⟨h0,.inr ⟨b,off,ha,hlo,hl,hf,l,h,hj,fun i hi=>by rw [←e i hi];exact hc i hi⟩⟩
def hdTx (w:World) (b o:Nat) (t:Tx):World:=(((w.setCell ⟨b,o,none⟩ (.int .i64 t.id)).setCell ⟨b,o+1,none⟩ (.int .i64 t.am)).setCell ⟨b,o+2,none⟩ (.int .i64 t.st)).setCell ⟨b,o+3,none⟩ (.int .i64 t.dn)
def setTx (w:World) (b o:Nat) (t:Tx) (ai:Option Addr) (ci:Nat):World:=(hdTx w b o t).setCell ⟨b,o+4,none⟩ (.slice ai t.n ci)
theorem hdTx_size {w:World} {b o:Nat} {t:Tx}:(hdTx w b o t).heap.size=w.heap.size:=by simp [hdTx,World.setCell]
theorem setTx_size {w:World} {b o:Nat} {t:Tx} {ai:Option Addr} {ci:Nat}:(setTx w b o t ai ci).heap.size=w.heap.size:=by simp [setTx,hdTx,World.setCell]
theorem hdTx_far {w:World} {b o o':Nat} {t:Tx} (h:o'<o∨o+3<o'):(hdTx w b o t).cell? ⟨b,o',none⟩=w.cell? ⟨b,o',none⟩:=by
  unfold hdTx;rw [setO (by omega),setO (by omega),setO (by omega),setO (by omega)]
theorem hdTx_frozen {w:World} {b o:Nat} {t:Tx} {p:Addr}:(hdTx w b o t).frozen? p=w.frozen? p:=by
  unfold hdTx;rw [World.frozen?_setCell,World.frozen?_setCell,World.frozen?_setCell,World.frozen?_setCell]
theorem hdTx_same {w:World} {b o:Nat} {t t0:Tx} {ai:Option Addr} {ci:Nat} (h:CTx w b o t0 ai ci) (hn:t.n=t0.n):CTx (hdTx w b o t) b o t ai ci:=by
  obtain ⟨h0,h1,h2,h3,h4⟩:=h;refine ⟨?_,?_,?_,?_,?_⟩
  · unfold hdTx;rw [setO (by omega),setO (by omega),setO (by omega)];exact setS h0
  · unfold hdTx;rw [setO (by omega),setO (by omega)];exact setS (by rw [setO (by omega)];exact h1)
  · unfold hdTx;rw [setO (by omega)];exact setS (by rw [setO (by omega),setO (by omega)];exact h2)
  · unfold hdTx;exact setS (by rw [setO (by omega),setO (by omega),setO (by omega)];exact h3)
  · rw [hn,hdTx_far (by omega)];exact h4
theorem setTx_same {w:World} {b o:Nat} {t t0:Tx} {ai ai0:Option Addr} {ci ci0:Nat} (h:CTx w b o t0 ai0 ci0):CTx (setTx w b o t ai ci) b o t ai ci:=by
  have g:CTx (hdTx w b o {t with n:=t0.n}) b o {t with n:=t0.n} ai0 ci0:=hdTx_same h rfl;obtain ⟨h0,h1,h2,h3,h4⟩:=g;refine ⟨?_,?_,?_,?_,?_⟩
  · unfold setTx;rw [setO (by omega)];exact h0
  · unfold setTx;rw [setO (by omega)];exact h1
  · unfold setTx;rw [setO (by omega)];exact h2
  · unfold setTx;rw [setO (by omega)];exact h3
  · unfold setTx;exact setS h4
theorem setTx_far {w:World} {b o o':Nat} {t:Tx} {ai:Option Addr} {ci:Nat} (h:o'<o∨o+4<o'):(setTx w b o t ai ci).cell? ⟨b,o',none⟩=w.cell? ⟨b,o',none⟩:=by
  unfold setTx;rw [setO (by omega),hdTx_far (by omega)]
theorem setTx_frozen {w:World} {b o:Nat} {t:Tx} {ai:Option Addr} {ci:Nat} {p:Addr}:(setTx w b o t ai ci).frozen? p=w.frozen? p:=by
  unfold setTx;rw [World.frozen?_setCell,hdTx_frozen]
theorem hdTx_below {m:Nat} {w wr:World} {b o:Nat} {t:Tx} (h:Below m w wr) (h1:m≤b):Below m w (hdTx wr b o t):=by
  unfold hdTx;exact (((h.setCell (p:=⟨b,_,none⟩) h1 _).setCell (p:=⟨b,_,none⟩) h1 _).setCell (p:=⟨b,_,none⟩) h1 _).setCell (p:=⟨b,_,none⟩) h1 _
theorem setTx_below {m:Nat} {w wr:World} {b o:Nat} {t:Tx} {ai:Option Addr} {ci:Nat} (h:Below m w wr) (h1:m≤b):Below m w (setTx wr b o t ai ci):=
  (hdTx_below h h1).setCell (p:=⟨b,_,none⟩) h1 _
theorem hdTx_writes {lo hi:Nat} {w wr:World} {b o:Nat} {t:Tx} (h:Writes lo hi w wr) (h1:lo≤b) (h2:b<hi):Writes lo hi w (hdTx wr b o t):=by
  unfold hdTx;exact (((h.setCell (p:=⟨b,_,none⟩) h1 h2 _).setCell (p:=⟨b,_,none⟩) h1 h2 _).setCell (p:=⟨b,_,none⟩) h1 h2 _).setCell (p:=⟨b,_,none⟩) h1 h2 _
theorem setTx_writes {lo hi:Nat} {w wr:World} {b o:Nat} {t:Tx} {ai:Option Addr} {ci:Nat} (h:Writes lo hi w wr) (h1:lo≤b) (h2:b<hi):Writes lo hi w (setTx wr b o t ai ci):=
  (hdTx_writes h h1 h2).setCell (p:=⟨b,_,none⟩) h1 h2 _
theorem OwnTx.store {w:World} {lo hi hi' l' h' b off n j:Nat} {T:Nat→Tx} {t:Tx} {ai:Option Addr} {ci:Nat} (h:OwnTx w lo hi (some ⟨b,off,none⟩) n T) (hj:j<n) (e1:hi≤l') (e2:h'≤hi') (e3:hi≤hi') (e4:hi'≤w.heap.size) (hn:t.n≤ci) (hu:OwnU w l' h' ai t.n t.U) :
    OwnTx (setTx w b (off+j*5) t ai ci) lo hi' (some ⟨b,off,none⟩) n (upf T j t):=by
  obtain ⟨h0,h1 | ⟨b1,off1,ha,hlo,hl,hf,l,h,hd,hc⟩⟩:=h
  · omega
  simp only [Option.some.injEq,Addr.mk.injEq,and_true] at ha;obtain ⟨rfl,rfl⟩:=ha;refine ⟨by rw [setTx_size];exact e4,.inr ⟨b,off,rfl,hlo,by omega,fun i=>by rw [setTx_frozen];exact hf i,fun i=>if i=j then l' else l i,fun i=>if i=j then h' else h i,fun i q hi hq hne=>?_,fun i hi=>?_⟩⟩
  · by_cases c1:i=j <;> by_cases c2:q=j <;> simp only [c1,c2,if_true,if_false]
    · omega
    · have:=(hc q hq).2.1;omega
    · have:=(hc i hi).2.1;omega
    · exact hd i q hi hq hne
  · obtain ⟨k0,k1,ai',ci',k2,k3,k4⟩:=hc i hi
    by_cases e:i=j
    · subst e;simp only [if_true,upf_eq];exact ⟨by omega,by omega,ai,ci,setTx_same k2,hn,hu.writes (lo':=b) (hi':=b+1) (setTx_writes (Writes.refl _ _ _) (Nat.le_refl _) (Nat.lt_succ_self _)) (by omega)⟩
    · simp only [if_neg e];rw [upf_ne _ _ e];refine ⟨k0,by omega,ai',ci',?_,k3,k4.writes (lo':=b) (hi':=b+1) (setTx_writes (Writes.refl _ _ _) (Nat.le_refl _) (Nat.lt_succ_self _)) (by omega)⟩;have g:∀q,q<5→(setTx w b (off+j*5) t ai ci).cell? ⟨b,off+i*5+q,none⟩=w.cell? ⟨b,off+i*5+q,none⟩:=fun q hq=>setTx_far (by omega);obtain ⟨h0,h1,h2,h3,h4⟩:=k2;exact ⟨(g 0 (by omega)).trans h0,(g 1 (by omega)).trans h1,(g 2 (by omega)).trans h2,(g 3 (by omega)).trans h3,(g 4 (by omega)).trans h4⟩
theorem OwnTx.pick {w:World} {lo hi:Nat} {a:Option Addr} {n:Nat} {T:Nat→Tx} (h:OwnTx w lo hi a n T) {j:Nat} (hj:j<n) :
    ∃b off ai ci l h,a=some ⟨b,off,none⟩∧lo≤b∧b<hi∧(∀i,w.frozen? ⟨b,i,none⟩=false)∧CTx w b (off+j*5) (T j) ai ci∧(T j).n≤ci∧(b<l∨h≤b)∧(h=0∨lo≤l∧h≤hi)∧OwnU w l h ai (T j).n (T j).U∧
      ∀t w1,t.n=(T j).n→Writes l h (hdTx w b (off+j*5) t) w1→OwnU w1 l h ai t.n t.U→OwnTx w1 lo hi a n (upf T j t):=by
  obtain ⟨h0,h1 | ⟨b,off,ha,hlo,hl,hf,l,h,hd,hc⟩⟩:=h
  · omega
  obtain ⟨k0,k1,ai,ci,k2,k3,k4⟩:=hc j hj;refine ⟨b,off,ai,ci,l j,h j,ha,hlo,hl,hf,k2,k3,k0,k1,k4,fun t w1 hn hw hr=>?_⟩;have hsz:w.heap.size≤w1.heap.size:=(by have:=hw.size;rw [hdTx_size] at this;exact this);have eb:w1.heap[b]? = (hdTx w b (off+j*5) t).heap[b]?:=hw.block b (by rw [hdTx_size];omega) (by omega);have cb:∀q,w1.cell? ⟨b,q,none⟩=(hdTx w b (off+j*5) t).cell? ⟨b,q,none⟩:=fun q=>World.cell?_of_block (w:=hdTx w b (off+j*5) t) (a:=⟨b,q,none⟩) eb;refine ⟨Nat.le_trans h0 hsz,.inr ⟨b,off,ha,hlo,hl,fun i=>?_,l,h,hd,fun i hi=>?_⟩⟩
  · rw [World.frozen?_of_block (w:=hdTx w b (off+j*5) t) (a:=⟨b,i,none⟩) eb,hdTx_frozen];exact hf i
  · obtain ⟨m0,m1,ai',ci',m2,m3,m4⟩:=hc i hi
    by_cases e:i=j
    · subst e;rw [upf_eq]
      have es:ai'=ai∧ci'=ci:=by
        have x1:=k2.2.2.2.2;have x2:=m2.2.2.2.2;rw [x1] at x2;simp only [Option.some.injEq,Value.slice.injEq] at x2;exact ⟨x2.1.symm,x2.2.2.symm⟩
      exact ⟨m0,m1,ai,ci,(hdTx_same k2 hn).block eb,by rw [hn];exact k3,hr⟩
    · rw [upf_ne _ _ e];refine ⟨m0,m1,ai',ci',?_,m3,?_⟩
      · have g:∀q,q<5→w1.cell? ⟨b,off+i*5+q,none⟩=w.cell? ⟨b,off+i*5+q,none⟩:=fun q hq=>(cb _).trans (hdTx_far (by omega));obtain ⟨h0,h1,h2,h3,h4⟩:=m2;exact ⟨(g 0 (by omega)).trans h0,(g 1 (by omega)).trans h1,(g 2 (by omega)).trans h2,(g 3 (by omega)).trans h3,(g 4 (by omega)).trans h4⟩
      · have hdd:=hd i j hi hj e;have m5:=m4.writes (w':=hdTx w b (off+j*5) t) (lo':=b) (hi':=b+1) (hdTx_writes (Writes.refl _ _ _) (Nat.le_refl _) (Nat.lt_succ_self _)) (by omega);exact m5.writes hw (by omega)
theorem infoTx:(Tryz.prog.info? 127).map (fun i=>(i.zero,i.size,i.bytes))=some (some (.agg #[.int .i64 0,.int .i64 0,.int .i64 0,.int .i64 0,.slice none 0 0]),5,56):=by kernel_rfl
theorem run_make_Tx (n:Nat) (hn:n≤1048576) (w:World) :
    (Instr.makeSlice 27 (.int .i64 (n:Int)) (.int .i64 (n:Int))).run Tryz.prog w=.ok (.slice (some ⟨w.heap.size,0,none⟩) n n) (w.alloc (.cells (madeCells #[.int .i64 0,.int .i64 0,.int .i64 0,.int .i64 0,.slice none 0 0] (n*5)) 127)):=by
  obtain ⟨i,hi,hzz⟩:=Option.map_eq_some_iff.1 infoTx;simp only [Prod.mk.injEq] at hzz;obtain ⟨hz,hs,hb⟩:=hzz;have hr:=run_make (P:=Tryz.prog) w 27 127 i _ Tryz.underlying27 hi hz .i64 .i64 n n (by omega) (Int.le_refl _) (by rw [hb];omega) (by omega);simp only [Int.toNat_natCast,hs] at hr;exact hr
theorem made_Tx (w:World) (n:Nat):OwnTx (w.alloc (.cells (madeCells #[.int .i64 0,.int .i64 0,.int .i64 0,.int .i64 0,.slice none 0 0] (n*5)) 127)) w.heap.size (w.heap.size+1) (some ⟨w.heap.size,0,none⟩) n (fun _=>zTx):=by
  refine ⟨by simp,.inr ⟨_,_,rfl,Nat.le_refl _,Nat.lt_succ_self _,fun i=>by simp [go_sem],fun _=>0,fun _=>0,fun i j _ _ _=>.inl (Nat.le_refl _),fun i hi=>⟨.inr (Nat.zero_le _),.inl rfl,none,0,?_,Nat.le_refl _,Nat.zero_le _,.inl rfl⟩⟩⟩
  have c:∀j,j<5→(w.alloc (.cells (madeCells #[.int .i64 0,.int .i64 0,.int .i64 0,.int .i64 0,.slice none 0 0] (n*5)) 127)).cell? ⟨w.heap.size,0+i*5+j,none⟩=(#[Value.int .i64 0,.int .i64 0,.int .i64 0,.int .i64 0,.slice none 0 0])[j]?:=fun j hj=>by
    have l:i*5+j<n*5:=(by omega);have:j=0∨j=1∨j=2∨j=3∨j=4:=(by omega)
    rcases this with rfl | rfl | rfl | rfl | rfl <;> simp [go_sem,madeCells] <;> exact ⟨_,by rw [Array.getElem?_range,if_pos (by omega)],by simp [Nat.add_mod]⟩
  exact ⟨c 0 (by omega),c 1 (by omega),c 2 (by omega),c 3 (by omega),c 4 (by omega)⟩
theorem szUndoS_x (n:Nat) (a:Option Addr) (cap:Nat) (x:Int) (w:World) (hn:n≤9223372036854775807) (h0:0≤x) (h1:x≤1048576) :
    Calls Tryz.prog 175 #[.slice a n cap,.int .i64 x] w fun e w'=>e=.returned (.int .i64 (if x-n<0 then -1 else x-n))∧w'=w:=by
  by_cases h:x-(n:Int)<0
  · go_enter Tryz.func175,Tryz.ntmps175;go_wp2;go_ret;exact ⟨rfl,rfl⟩
  · go_enter Tryz.func175,Tryz.ntmps175;go_wp2;go_ret;exact ⟨rfl,rfl⟩
theorem szTxn_any (id am st dn:Int) (n:Nat) (a:Option Addr) (cap:Nat) (x:Int) (w:World) (hn:n≤9223372036854775807) (h0:0≤x) (h1:x≤1048576) :
    Calls Tryz.prog 108 #[.agg #[.int .i64 id,.int .i64 am,.int .i64 st,.int .i64 dn,.slice a n cap],.int .i64 x] w fun e w'=>e=.returned (.int .i64 (if x-n<0 then -1 else x-n))∧Below w.heap.size w w':=by
  by_cases h:x-(n:Int)<0
  · go_enter Tryz.func108,Tryz.ntmps108;go_wp2_with fail;refine (szUndoS_x n a cap x _ hn h0 h1).mono ?_;rintro e w' ⟨rfl,rfl⟩;rw [if_pos (by omega)];go_wp2;go_ret;exact ⟨rfl,below_new _ _⟩
  · go_enter Tryz.func108,Tryz.ntmps108;go_wp2_with fail;refine (szUndoS_x n a cap x _ hn h0 h1).mono ?_;rintro e w' ⟨rfl,rfl⟩;rw [if_neg (by omega)];go_wp2;go_ret;exact ⟨rfl,below_new _ _⟩
def smTx (T:Nat→Tx) (k:Nat):Nat:=smf (fun i=>(T i).n) k
set_option maxHeartbeats 1000000 in
theorem szTxnS_any (n:Nat) (T:Nat→Tx) (a:Option Addr) (cap:Nat) (x:Int) (w:World) (hn:n≤9223372036854775807) (hL:∀i,i<n→(T i).n≤9223372036854775807) (h0:0≤x) (h1:x≤1048576) (h:TxsAt w a n T) :
    Calls Tryz.prog 57 #[.slice a n cap,.int .i64 x] w fun e w'=>Below w.heap.size w w'∧∃r:Int,e=.returned (.int .i64 r)∧(r=-1∨(0≤r∧r=x-n-smTx T n)):=by
  by_cases hx:x-(n:Int)<0
  · clear hL h;go_enter Tryz.func57,Tryz.ntmps57;go_wp2;go_ret;exact ⟨Below.refl _ _,_,rfl,.inl rfl⟩
  · go_enter Tryz.func57,Tryz.ntmps57;have HL:Hid (∀i,i<n→(T i).n≤9223372036854775807):=hL;have HA:Hid (TxsAt w a n T):=h;clear hL h;go_wp2;go_loopw [1,5] (fun q i wr=>∃k:Nat,k≤n∧i=.int .i64 k∧q=.int .i64 (x-n-smTx T k)∧0≤x-n-smTx T k∧Below w.heap.size w wr) (fun _ i _=>n-(intOf i).toNat)
    case atStart=>exact ⟨0,Nat.zero_le _,rfl,by simp [smTx,smf],by simp [smTx,smf];omega,Below.refl _ _⟩
    case round=>
      obtain ⟨k,hk,rfl,rfl,hnn,hb⟩:=hrel
      by_cases hlt:k<n
      · rcases HA.out.below hb with h | ⟨b,off,rfl,hl,hc⟩
        · omega
        obtain ⟨ai,ci,hC,-⟩:=hc k hlt;obtain ⟨q0,q1,q2,q3,q4⟩:=hC;have hLk:=HL.out k hlt;have hs:(smTx T (k+1):Int)=smTx T k+(T k).n:=(by simp [smTx,smf]);generalize hS:(smTx T k:Int)=S at *;have HB:Hid (Below w.heap.size w wr):=hb;clear hc hb
        by_cases hneg:x-n-S-((T k).n:Int)<0
        · go_wp2_with fail;refine (szTxn_any (T k).id (T k).am (T k).st (T k).dn (T k).n ai ci (x-n-S) wr hLk hnn (by omega)).mono ?_;rintro e w' ⟨rfl,hb'⟩;rw [if_pos (by omega)];go_wp2;go_ret;exact ⟨below_then HB.out hb',_,rfl,.inl rfl⟩
        · go_wp2_with fail;refine (szTxn_any (T k).id (T k).am (T k).st (T k).dn (T k).n ai ci (x-n-S) wr hLk hnn (by omega)).mono ?_;rintro e w' ⟨rfl,hb'⟩;rw [if_neg (by omega)];go_wp2;go_roundw
          case rel=>exact ⟨k+1,hlt,by go_num,by rw [hs];go_num,by rw [hs];omega,below_then HB.out hb'⟩
          case measure=>simp [intOf];omega
      · have hkn:k=n:=by omega
        go_wp2;go_ret;exact ⟨hb,_,rfl,.inr ⟨by first | exact hnn | (rw [hkn] at hnn;exact hnn),by first | rfl | rw [hkn]⟩⟩
set_option maxHeartbeats 1000000 in
theorem toTxn_any (id am st dn:Int) (n:Nat) (R:Nat→Ud) (a:Option Addr) (cap:Nat) (w:World) (hn:n≤1048576) (h:UndsAt w a n R) :
    Calls Tryz.prog 116 #[.agg #[.int .i64 id,.int .i64 am,.int .i64 st,.int .i64 dn,.slice a n cap]] w fun e w'=>
      ∃B,e=.returned (.agg #[.int .i64 id,.int .i64 am,.int .i64 st,.int .i64 dn,.slice (some ⟨B,0,none⟩) n n])∧Below w.heap.size w w'∧OwnU w' w.heap.size w'.heap.size (some ⟨B,0,none⟩) n R:=by
  go_enter Tryz.func116,Tryz.ntmps116;go_wp2_with fail;have hb0:∀o1 o2 o3,Below w.heap.size w (((w.alloc o1).alloc o2).alloc o3):=fun o1 o2 o3=>(((Below.refl _ _).alloc (Nat.le_refl _) _).alloc (by simp) _).alloc (by simp;omega) _;refine (toUndoS_any n R a cap _ (by omega) (h.below (hb0 _ _ _))).mono ?_;rintro e w1 ⟨B,rfl,hb1,hr1⟩;obtain ⟨hc,hf⟩:=bcell2 hb1;have hz:w.heap.size+2<w1.heap.size:=(by have:=hb1.size;simp at this;omega);have HBF:Hid (Below w.heap.size w w1):=below_then (hb0 _ _ _) hb1;go_wp2_with fail;refine bodyPost_ret (v:=.agg #[.int .i64 id,.int .i64 am,.int .i64 st,.int .i64 dn,.slice (some ⟨B,0,none⟩) n n]) (by simp [results,Tryz.results116,go_sem,hc]) rfl ⟨_,rfl,?_,?_⟩
  · repeat (first | with_reducible exact HBF.out | with_reducible refine Below.setCell ?_ (by first | omega | (simp <;> omega)) _)
  · have e3:∀o1 o2 o3:Obj,(((w.alloc o1).alloc o2).alloc o3).heap.size=w.heap.size+3:=fun _ _ _=>by simp
    rw [e3] at hr1
    have hw:∀w3,Writes w.heap.size (w.heap.size+3) w1 w3→w3.heap.size=w1.heap.size→OwnU w3 w.heap.size w3.heap.size (some ⟨B,0,none⟩) n R:=fun w3 h e=>
      (hr1.writes h (.inr (Nat.le_refl _))).wide (by omega) (by omega) (Nat.le_refl _)
    refine hw _ ?_ (by simp [World.setCell])
    repeat (first | with_reducible exact Writes.refl _ _ _ | with_reducible refine Writes.setCell ?_ (by first | omega | (simp <;> omega)) (by first | omega | (simp <;> omega)) _)
theorem pref_zTx (T:Nat→Tx) (k:Nat):pref T (fun _=>zTx) k k=zTx:=pref_at _ _ _
set_option maxHeartbeats 2000000 in
theorem toTxnS_any (n:Nat) (T:Nat→Tx) (a:Option Addr) (cap:Nat) (w:World) (hn:n≤1048576) (hL:∀i,i<n→(T i).n≤1048576) (h:TxsAt w a n T) :
    Calls Tryz.prog 64 #[.slice a n cap] w fun e w'=>
      e=.returned (.slice (some ⟨w.heap.size,0,none⟩) n n)∧Below w.heap.size w w'∧OwnTx w' w.heap.size w'.heap.size (some ⟨w.heap.size,0,none⟩) n T:=by
  have hmk:=run_make_Tx n (by omega);have HL:Hid (∀i,i<n→(T i).n≤1048576):=hL;have HA:Hid (TxsAt w a n T):=h;clear hL h;go_enter Tryz.func64,Tryz.ntmps64;go_wp2;clear hmk;go_loopw [4] (fun i wr=>∃k:Nat,k≤n∧i=.int .i64 k∧Hid (Below w.heap.size w wr)∧Hid (OwnTx wr w.heap.size wr.heap.size (some ⟨w.heap.size,0,none⟩) n (pref T (fun _=>zTx) k))) (fun i _=>n-(intOf i).toNat)
  case atStart=>exact ⟨0,Nat.zero_le _,rfl,(Below.refl _ _).alloc (Nat.le_refl _) _,by rw [pref_zero];exact (made_Tx w n).wide (Nat.le_refl _) (by simp) (Nat.le_refl _)⟩
  case round=>
    obtain ⟨k,hk,rfl,HB,HO⟩:=hrel
    by_cases hlt:k<n
    · rcases HA.out.below HB.out with h | ⟨b,off,rfl,hl,hc⟩
      · omega
      obtain ⟨ai,ci,hC,hby,-⟩:=hc k hlt;obtain ⟨q0,q1,q2,q3,q4⟩:=hC;have HY:Hid (UndsAt wr ai (T k).n (T k).U):=hby;obtain ⟨h0,h1 | ⟨b1,off1,ha,hlo,hl1,hf,l,h,hd,hc1⟩⟩:=HO.out
      · omega
      simp only [Option.some.injEq,Addr.mk.injEq,and_true] at ha;obtain ⟨rfl,rfl⟩:=ha;obtain ⟨_,_,ai',ci',hC1,-⟩:=hc1 k hlt;rw [pref_zTx,Nat.zero_add] at hC1;have hsz:w.heap.size<wr.heap.size:=(by omega);have hlt':(k:Int)<(n:Int):=(by omega);have hk0:(0:Int)≤(k:Int):=(by omega);clear hc hby hc1 hd;go_wp2_with fail;refine (toTxn_any (T k).id (T k).am (T k).st (T k).dn (T k).n (T k).U ai ci wr (HL.out k hlt) HY.out).mono ?_;rintro e w1 ⟨B,rfl,hb1,hr1⟩;have HB1:Hid (Below wr.heap.size wr w1):=hb1;have HR1:Hid (OwnU w1 wr.heap.size w1.heap.size (some ⟨B,0,none⟩) (T k).n (T k).U):=hr1;have hC2:=hC1.block (hb1.block _ hsz);obtain ⟨y0,y1,y2,y3,y4⟩:=hC2;replace hf:∀i,w1.frozen? ⟨w.heap.size,i,none⟩=false:=fun i=>(hb1.frozen (p:=⟨_,_,none⟩) hsz).trans (hf i);clear hb1 hr1 hC1 q0 q1 q2 q3 q4;go_wp2_with fail;go_roundw
      case rel=>
        have HS:=(HO.out.below HB1.out).store (t:=T k) hlt (Nat.le_refl _) (Nat.le_refl _) HB1.out.size (Nat.le_refl _) (Nat.le_refl _) HR1.out;rw [pref_upf,Nat.zero_add] at HS;refine ⟨k+1,hlt,by go_num,setTx_below (t:=T k) (o:=k*5) (ai:=some ⟨B,0,none⟩) (ci:=(T k).n) (below_then HB.out HB1.out) (Nat.le_refl _),?_⟩;have es:(setTx w1 w.heap.size (k*5) (T k) (some ⟨B,0,none⟩) (T k).n).heap.size=w1.heap.size:=setTx_size;rw [←es] at HS;exact HS
      case measure=>simp [intOf];omega
    · have hkn:k=n:=by omega
      have HT:Hid (OwnTx wr w.heap.size wr.heap.size (some ⟨w.heap.size,0,none⟩) n T):=by
        refine HO.out.congr fun i hi=>pref_lt _ _ (by omega)
      have hnl:¬((k:Int)<(n:Int)):=(by omega);go_wp2_with fail;go_ret;exact ⟨rfl,HB.out,HT.out⟩
structure Rw where
  key:Int
  n:Nat
  U:Nat→Vr
def zRw:Rw:=⟨0,0,fun _=>zV⟩
def CRw (w:World) (b o:Nat) (t:Rw) (ai:Option Addr) (ci:Nat):Prop:=
  w.cell? ⟨b,o,none⟩=some (.int .i64 t.key)∧w.cell? ⟨b,o+1,none⟩=some (.slice ai t.n ci)
theorem CRw.block {w w':World} {b o:Nat} {t:Rw} {ai:Option Addr} {ci:Nat} (h:CRw w b o t ai ci) (e:w'.heap[b]? = w.heap[b]?):CRw w' b o t ai ci:=by
  have g:∀i,w'.cell? ⟨b,i,none⟩=w.cell? ⟨b,i,none⟩:=fun i=>World.cell?_of_block (w:=w) (a:=⟨b,i,none⟩) e;obtain ⟨h0,h1⟩:=h;exact ⟨(g _).trans h0,(g _).trans h1⟩
def RwsAt (w:World) (a:Option Addr) (n:Nat) (T:Nat→Rw):Prop:=
  n=0∨∃b off,a=some ⟨b,off,none⟩∧b<w.heap.size∧∀i,i<n→∃ai ci,CRw w b (off+i*2) (T i) ai ci∧VersAt w ai (T i).n (T i).U∧(T i).n≤ci
theorem RwsAt.below {w w':World} {a:Option Addr} {n:Nat} {T:Nat→Rw} (h:RwsAt w a n T) (hb:Below w.heap.size w w'):RwsAt w' a n T:=by
  rcases h with h | ⟨b,off,ha,hl,hc⟩
  · exact .inl h
  · refine .inr ⟨b,off,ha,Nat.lt_of_lt_of_le hl hb.size,fun i hi=>?_⟩;obtain ⟨ai,ci,h1,h2,h3⟩:=hc i hi;exact ⟨ai,ci,h1.block (hb.block _ hl),h2.below hb,h3⟩
def OwnRw (w:World) (lo hi:Nat) (a:Option Addr) (n:Nat) (T:Nat→Rw):Prop:=
  hi≤w.heap.size∧(n=0∨∃b off,a=some ⟨b,off,none⟩∧lo≤b∧b<hi∧(∀i,w.frozen? ⟨b,i,none⟩=false)∧∃l h:Nat→Nat,(∀i j,i<n→j<n→i≠j→h i≤l j∨h j≤l i)∧
    ∀i,i<n→(b<l i∨h i≤b)∧(h i=0∨lo≤l i∧h i≤hi)∧∃ai ci,CRw w b (off+i*2) (T i) ai ci∧(T i).n≤ci∧Own4 w (l i) (h i) ai (T i).n (T i).U)
theorem OwnRw.at {w:World} {lo hi:Nat} {a:Option Addr} {n:Nat} {T:Nat→Rw} (h:OwnRw w lo hi a n T):RwsAt w a n T:=by
  obtain ⟨h0,h1 | ⟨b,off,ha,_,hl,_,l,h,_,hc⟩⟩:=h
  · exact .inl h1
  · refine .inr ⟨b,off,ha,by omega,fun i hi=>?_⟩;obtain ⟨_,_,ai,ci,k1,k2,k3⟩:=hc i hi;exact ⟨ai,ci,k1,k3.at,k2⟩
theorem OwnRw.writes {w w':World} {lo hi lo' hi':Nat} {a:Option Addr} {n:Nat} {T:Nat→Rw} (h:OwnRw w lo hi a n T) (hw:Writes lo' hi' w w') (hd:hi≤lo'∨hi'≤lo):OwnRw w' lo hi a n T:=by
  obtain ⟨h0,h1 | ⟨b,off,ha,hlo,hl,hf,l,h,hj,hc⟩⟩:=h
  · exact ⟨Nat.le_trans h0 hw.size,.inl h1⟩
  · have e:=hw.block b (by omega) (by omega);refine ⟨Nat.le_trans h0 hw.size,.inr ⟨b,off,ha,hlo,hl,fun i=>(World.frozen?_of_block (w:=w) (a:=⟨b,i,none⟩) e).trans (hf i),l,h,hj,fun i hi=>?_⟩⟩;obtain ⟨k0,k1,ai,ci,k2,k3,k4⟩:=hc i hi;exact ⟨k0,k1,ai,ci,k2.block e,k3,k4.writes hw (by omega)⟩
theorem OwnRw.below {w w':World} {lo hi:Nat} {a:Option Addr} {n:Nat} {T:Nat→Rw} (h:OwnRw w lo hi a n T) (hb:Below w.heap.size w w'):OwnRw w' lo hi a n T:=
  h.writes (Writes.of_below (lo:=hi) (hi:=hi) hb) (.inl (Nat.le_refl _))
theorem OwnRw.wide {w:World} {lo hi lo' hi':Nat} {a:Option Addr} {n:Nat} {T:Nat→Rw} (h:OwnRw w lo hi a n T) (h1:lo'≤lo) (h2:hi≤hi') (h3:hi'≤w.heap.size):OwnRw w lo' hi' a n T:=by
  obtain ⟨h0,h4 | ⟨b,off,ha,hlo,hl,hf,l,h,hj,hc⟩⟩:=h
  · exact ⟨h3,.inl h4⟩
  · refine ⟨h3,.inr ⟨b,off,ha,by omega,by omega,hf,l,h,hj,fun i hi=>?_⟩⟩;obtain ⟨k0,k1,r⟩:=hc i hi;exact ⟨k0,by omega,r⟩
theorem OwnRw.congr {w:World} {lo hi:Nat} {a:Option Addr} {n:Nat} {T T':Nat→Rw} (h:OwnRw w lo hi a n T) (e:∀i,i<n→T i=T' i):OwnRw w lo hi a n T':=by
  obtain ⟨h0,h1 | ⟨b,off,ha,hlo,hl,hf,l,h,hj,hc⟩⟩:=h
  · exact ⟨h0,.inl h1⟩
  · exact ⟨h0,.inr ⟨b,off,ha,hlo,hl,hf,l,h,hj,fun i hi=>by rw [←e i hi];exact hc i hi⟩⟩
def hdRw (w:World) (b o:Nat) (t:Rw):World:=w.setCell ⟨b,o,none⟩ (.int .i64 t.key)
def setRw (w:World) (b o:Nat) (t:Rw) (ai:Option Addr) (ci:Nat):World:=(hdRw w b o t).setCell ⟨b,o+1,none⟩ (.slice ai t.n ci)
theorem hdRw_size {w:World} {b o:Nat} {t:Rw}:(hdRw w b o t).heap.size=w.heap.size:=by simp [hdRw,World.setCell]
theorem setRw_size {w:World} {b o:Nat} {t:Rw} {ai:Option Addr} {ci:Nat}:(setRw w b o t ai ci).heap.size=w.heap.size:=by simp [setRw,hdRw,World.setCell]
theorem hdRw_far {w:World} {b o o':Nat} {t:Rw} (h:o'<o∨o+0<o'):(hdRw w b o t).cell? ⟨b,o',none⟩=w.cell? ⟨b,o',none⟩:=by
  unfold hdRw;rw [setO (by omega)]
theorem hdRw_frozen {w:World} {b o:Nat} {t:Rw} {p:Addr}:(hdRw w b o t).frozen? p=w.frozen? p:=by
  unfold hdRw;rw [World.frozen?_setCell]
theorem hdRw_same {w:World} {b o:Nat} {t t0:Rw} {ai:Option Addr} {ci:Nat} (h:CRw w b o t0 ai ci) (hn:t.n=t0.n):CRw (hdRw w b o t) b o t ai ci:=by
  obtain ⟨h0,h1⟩:=h;refine ⟨?_,?_⟩
  · unfold hdRw;exact setS h0
  · rw [hn,hdRw_far (by omega)];exact h1
theorem setRw_same {w:World} {b o:Nat} {t t0:Rw} {ai ai0:Option Addr} {ci ci0:Nat} (h:CRw w b o t0 ai0 ci0):CRw (setRw w b o t ai ci) b o t ai ci:=by
  have g:CRw (hdRw w b o {t with n:=t0.n}) b o {t with n:=t0.n} ai0 ci0:=hdRw_same h rfl;obtain ⟨h0,h1⟩:=g;refine ⟨?_,?_⟩
  · unfold setRw;rw [setO (by omega)];exact h0
  · unfold setRw;exact setS h1
theorem setRw_far {w:World} {b o o':Nat} {t:Rw} {ai:Option Addr} {ci:Nat} (h:o'<o∨o+1<o'):(setRw w b o t ai ci).cell? ⟨b,o',none⟩=w.cell? ⟨b,o',none⟩:=by
  unfold setRw;rw [setO (by omega),hdRw_far (by omega)]
theorem setRw_frozen {w:World} {b o:Nat} {t:Rw} {ai:Option Addr} {ci:Nat} {p:Addr}:(setRw w b o t ai ci).frozen? p=w.frozen? p:=by
  unfold setRw;rw [World.frozen?_setCell,hdRw_frozen]
theorem hdRw_below {m:Nat} {w wr:World} {b o:Nat} {t:Rw} (h:Below m w wr) (h1:m≤b):Below m w (hdRw wr b o t):=by
  unfold hdRw;exact h.setCell (p:=⟨b,_,none⟩) h1 _
theorem setRw_below {m:Nat} {w wr:World} {b o:Nat} {t:Rw} {ai:Option Addr} {ci:Nat} (h:Below m w wr) (h1:m≤b):Below m w (setRw wr b o t ai ci):=
  (hdRw_below h h1).setCell (p:=⟨b,_,none⟩) h1 _
theorem hdRw_writes {lo hi:Nat} {w wr:World} {b o:Nat} {t:Rw} (h:Writes lo hi w wr) (h1:lo≤b) (h2:b<hi):Writes lo hi w (hdRw wr b o t):=by
  unfold hdRw;exact h.setCell (p:=⟨b,_,none⟩) h1 h2 _
theorem setRw_writes {lo hi:Nat} {w wr:World} {b o:Nat} {t:Rw} {ai:Option Addr} {ci:Nat} (h:Writes lo hi w wr) (h1:lo≤b) (h2:b<hi):Writes lo hi w (setRw wr b o t ai ci):=
  (hdRw_writes h h1 h2).setCell (p:=⟨b,_,none⟩) h1 h2 _
theorem OwnRw.store {w:World} {lo hi hi' l' h' b off n j:Nat} {T:Nat→Rw} {t:Rw} {ai:Option Addr} {ci:Nat} (h:OwnRw w lo hi (some ⟨b,off,none⟩) n T) (hj:j<n) (e1:hi≤l') (e2:h'≤hi') (e3:hi≤hi') (e4:hi'≤w.heap.size) (hn:t.n≤ci) (hu:Own4 w l' h' ai t.n t.U) :
    OwnRw (setRw w b (off+j*2) t ai ci) lo hi' (some ⟨b,off,none⟩) n (upf T j t):=by
  obtain ⟨h0,h1 | ⟨b1,off1,ha,hlo,hl,hf,l,h,hd,hc⟩⟩:=h
  · omega
  simp only [Option.some.injEq,Addr.mk.injEq,and_true] at ha;obtain ⟨rfl,rfl⟩:=ha;refine ⟨by rw [setRw_size];exact e4,.inr ⟨b,off,rfl,hlo,by omega,fun i=>by rw [setRw_frozen];exact hf i,fun i=>if i=j then l' else l i,fun i=>if i=j then h' else h i,fun i q hi hq hne=>?_,fun i hi=>?_⟩⟩
  · by_cases c1:i=j <;> by_cases c2:q=j <;> simp only [c1,c2,if_true,if_false]
    · omega
    · have:=(hc q hq).2.1;omega
    · have:=(hc i hi).2.1;omega
    · exact hd i q hi hq hne
  · obtain ⟨k0,k1,ai',ci',k2,k3,k4⟩:=hc i hi
    by_cases e:i=j
    · subst e;simp only [if_true,upf_eq];exact ⟨by omega,by omega,ai,ci,setRw_same k2,hn,hu.writes (lo':=b) (hi':=b+1) (setRw_writes (Writes.refl _ _ _) (Nat.le_refl _) (Nat.lt_succ_self _)) (by omega)⟩
    · simp only [if_neg e];rw [upf_ne _ _ e];refine ⟨k0,by omega,ai',ci',?_,k3,k4.writes (lo':=b) (hi':=b+1) (setRw_writes (Writes.refl _ _ _) (Nat.le_refl _) (Nat.lt_succ_self _)) (by omega)⟩;have g:∀q,q<2→(setRw w b (off+j*2) t ai ci).cell? ⟨b,off+i*2+q,none⟩=w.cell? ⟨b,off+i*2+q,none⟩:=fun q hq=>setRw_far (by omega);obtain ⟨h0,h1⟩:=k2;exact ⟨(g 0 (by omega)).trans h0,(g 1 (by omega)).trans h1⟩
theorem OwnRw.pick {w:World} {lo hi:Nat} {a:Option Addr} {n:Nat} {T:Nat→Rw} (h:OwnRw w lo hi a n T) {j:Nat} (hj:j<n) :
    ∃b off ai ci l h,a=some ⟨b,off,none⟩∧lo≤b∧b<hi∧(∀i,w.frozen? ⟨b,i,none⟩=false)∧CRw w b (off+j*2) (T j) ai ci∧(T j).n≤ci∧(b<l∨h≤b)∧(h=0∨lo≤l∧h≤hi)∧Own4 w l h ai (T j).n (T j).U∧
      ∀t w1,t.n=(T j).n→Writes l h (hdRw w b (off+j*2) t) w1→Own4 w1 l h ai t.n t.U→OwnRw w1 lo hi a n (upf T j t):=by
  obtain ⟨h0,h1 | ⟨b,off,ha,hlo,hl,hf,l,h,hd,hc⟩⟩:=h
  · omega
  obtain ⟨k0,k1,ai,ci,k2,k3,k4⟩:=hc j hj;refine ⟨b,off,ai,ci,l j,h j,ha,hlo,hl,hf,k2,k3,k0,k1,k4,fun t w1 hn hw hr=>?_⟩;have hsz:w.heap.size≤w1.heap.size:=(by have:=hw.size;rw [hdRw_size] at this;exact this);have eb:w1.heap[b]? = (hdRw w b (off+j*2) t).heap[b]?:=hw.block b (by rw [hdRw_size];omega) (by omega);have cb:∀q,w1.cell? ⟨b,q,none⟩=(hdRw w b (off+j*2) t).cell? ⟨b,q,none⟩:=fun q=>World.cell?_of_block (w:=hdRw w b (off+j*2) t) (a:=⟨b,q,none⟩) eb;refine ⟨Nat.le_trans h0 hsz,.inr ⟨b,off,ha,hlo,hl,fun i=>?_,l,h,hd,fun i hi=>?_⟩⟩
  · rw [World.frozen?_of_block (w:=hdRw w b (off+j*2) t) (a:=⟨b,i,none⟩) eb,hdRw_frozen];exact hf i
  · obtain ⟨m0,m1,ai',ci',m2,m3,m4⟩:=hc i hi
    by_cases e:i=j
    · subst e;rw [upf_eq]
      have es:ai'=ai∧ci'=ci:=by
        have x1:=k2.2;have x2:=m2.2;rw [x1] at x2;simp only [Option.some.injEq,Value.slice.injEq] at x2;exact ⟨x2.1.symm,x2.2.2.symm⟩
      exact ⟨m0,m1,ai,ci,(hdRw_same k2 hn).block eb,by rw [hn];exact k3,hr⟩
    · rw [upf_ne _ _ e];refine ⟨m0,m1,ai',ci',?_,m3,?_⟩
      · have g:∀q,q<2→w1.cell? ⟨b,off+i*2+q,none⟩=w.cell? ⟨b,off+i*2+q,none⟩:=fun q hq=>(cb _).trans (hdRw_far (by omega));obtain ⟨h0,h1⟩:=m2;exact ⟨(g 0 (by omega)).trans h0,(g 1 (by omega)).trans h1⟩
      · have hdd:=hd i j hi hj e;have m5:=m4.writes (w':=hdRw w b (off+j*2) t) (lo':=b) (hi':=b+1) (hdRw_writes (Writes.refl _ _ _) (Nat.le_refl _) (Nat.lt_succ_self _)) (by omega);exact m5.writes hw (by omega)
theorem infoRw:(Tryz.prog.info? 173).map (fun i=>(i.zero,i.size,i.bytes))=some (some (.agg #[.int .i64 0,.slice none 0 0]),2,32):=by kernel_rfl
theorem run_make_Rw (n:Nat) (hn:n≤1048576) (w:World) :
    (Instr.makeSlice 28 (.int .i64 (n:Int)) (.int .i64 (n:Int))).run Tryz.prog w=.ok (.slice (some ⟨w.heap.size,0,none⟩) n n) (w.alloc (.cells (madeCells #[.int .i64 0,.slice none 0 0] (n*2)) 173)):=by
  obtain ⟨i,hi,hzz⟩:=Option.map_eq_some_iff.1 infoRw;simp only [Prod.mk.injEq] at hzz;obtain ⟨hz,hs,hb⟩:=hzz;have hr:=run_make (P:=Tryz.prog) w 28 173 i _ Tryz.underlying28 hi hz .i64 .i64 n n (by omega) (Int.le_refl _) (by rw [hb];omega) (by omega);simp only [Int.toNat_natCast,hs] at hr;exact hr
theorem made_Rw (w:World) (n:Nat):OwnRw (w.alloc (.cells (madeCells #[.int .i64 0,.slice none 0 0] (n*2)) 173)) w.heap.size (w.heap.size+1) (some ⟨w.heap.size,0,none⟩) n (fun _=>zRw):=by
  refine ⟨by simp,.inr ⟨_,_,rfl,Nat.le_refl _,Nat.lt_succ_self _,fun i=>by simp [go_sem],fun _=>0,fun _=>0,fun i j _ _ _=>.inl (Nat.le_refl _),fun i hi=>⟨.inr (Nat.zero_le _),.inl rfl,none,0,?_,Nat.le_refl _,Nat.zero_le _,.inl rfl⟩⟩⟩
  have c:∀j,j<2→(w.alloc (.cells (madeCells #[.int .i64 0,.slice none 0 0] (n*2)) 173)).cell? ⟨w.heap.size,0+i*2+j,none⟩=(#[Value.int .i64 0,.slice none 0 0])[j]?:=fun j hj=>by
    have l:i*2+j<n*2:=(by omega);have:j=0∨j=1:=(by omega)
    rcases this with rfl | rfl <;> simp [go_sem,madeCells] <;> exact ⟨_,by rw [Array.getElem?_range,if_pos (by omega)],by simp [Nat.add_mod]⟩
  exact ⟨c 0 (by omega),c 1 (by omega)⟩
theorem szVersionS_x (n:Nat) (a:Option Addr) (cap:Nat) (x:Int) (w:World) (hn:n≤9223372036854775807) (h0:0≤x) (h1:x≤1048576) :
    Calls Tryz.prog 176 #[.slice a n cap,.int .i64 x] w fun e w'=>e=.returned (.int .i64 (if x-n<0 then -1 else x-n))∧w'=w:=by
  by_cases h:x-(n:Int)<0
  · go_enter Tryz.func176,Tryz.ntmps176;go_wp2;go_ret;exact ⟨rfl,rfl⟩
  · go_enter Tryz.func176,Tryz.ntmps176;go_wp2;go_ret;exact ⟨rfl,rfl⟩
theorem szRow_any (key:Int) (n:Nat) (a:Option Addr) (cap:Nat) (x:Int) (w:World) (hn:n≤9223372036854775807) (h0:0≤x) (h1:x≤1048576) :
    Calls Tryz.prog 109 #[.agg #[.int .i64 key,.slice a n cap],.int .i64 x] w fun e w'=>e=.returned (.int .i64 (if x-n<0 then -1 else x-n))∧Below w.heap.size w w':=by
  by_cases h:x-(n:Int)<0
  · go_enter Tryz.func109,Tryz.ntmps109;go_wp2_with fail;refine (szVersionS_x n a cap x _ hn h0 h1).mono ?_;rintro e w' ⟨rfl,rfl⟩;rw [if_pos (by omega)];go_wp2;go_ret;exact ⟨rfl,below_new _ _⟩
  · go_enter Tryz.func109,Tryz.ntmps109;go_wp2_with fail;refine (szVersionS_x n a cap x _ hn h0 h1).mono ?_;rintro e w' ⟨rfl,rfl⟩;rw [if_neg (by omega)];go_wp2;go_ret;exact ⟨rfl,below_new _ _⟩
def smRw (T:Nat→Rw) (k:Nat):Nat:=smf (fun i=>(T i).n) k
set_option maxHeartbeats 1000000 in
theorem szRowS_any (n:Nat) (T:Nat→Rw) (a:Option Addr) (cap:Nat) (x:Int) (w:World) (hn:n≤9223372036854775807) (hL:∀i,i<n→(T i).n≤9223372036854775807) (h0:0≤x) (h1:x≤1048576) (h:RwsAt w a n T) :
    Calls Tryz.prog 58 #[.slice a n cap,.int .i64 x] w fun e w'=>Below w.heap.size w w'∧∃r:Int,e=.returned (.int .i64 r)∧(r=-1∨(0≤r∧r=x-n-smRw T n)):=by
  by_cases hx:x-(n:Int)<0
  · clear hL h;go_enter Tryz.func58,Tryz.ntmps58;go_wp2;go_ret;exact ⟨Below.refl _ _,_,rfl,.inl rfl⟩
  · go_enter Tryz.func58,Tryz.ntmps58;have HL:Hid (∀i,i<n→(T i).n≤9223372036854775807):=hL;have HA:Hid (RwsAt w a n T):=h;clear hL h;go_wp2;go_loopw [1,5] (fun q i wr=>∃k:Nat,k≤n∧i=.int .i64 k∧q=.int .i64 (x-n-smRw T k)∧0≤x-n-smRw T k∧Below w.heap.size w wr) (fun _ i _=>n-(intOf i).toNat)
    case atStart=>exact ⟨0,Nat.zero_le _,rfl,by simp [smRw,smf],by simp [smRw,smf];omega,Below.refl _ _⟩
    case round=>
      obtain ⟨k,hk,rfl,rfl,hnn,hb⟩:=hrel
      by_cases hlt:k<n
      · rcases HA.out.below hb with h | ⟨b,off,rfl,hl,hc⟩
        · omega
        obtain ⟨ai,ci,hC,-⟩:=hc k hlt;obtain ⟨q0,q1⟩:=hC;have hLk:=HL.out k hlt;have hs:(smRw T (k+1):Int)=smRw T k+(T k).n:=(by simp [smRw,smf]);generalize hS:(smRw T k:Int)=S at *;have HB:Hid (Below w.heap.size w wr):=hb;clear hc hb
        by_cases hneg:x-n-S-((T k).n:Int)<0
        · go_wp2_with fail;refine (szRow_any (T k).key (T k).n ai ci (x-n-S) wr hLk hnn (by omega)).mono ?_;rintro e w' ⟨rfl,hb'⟩;rw [if_pos (by omega)];go_wp2;go_ret;exact ⟨below_then HB.out hb',_,rfl,.inl rfl⟩
        · go_wp2_with fail;refine (szRow_any (T k).key (T k).n ai ci (x-n-S) wr hLk hnn (by omega)).mono ?_;rintro e w' ⟨rfl,hb'⟩;rw [if_neg (by omega)];go_wp2;go_roundw
          case rel=>exact ⟨k+1,hlt,by go_num,by rw [hs];go_num,by rw [hs];omega,below_then HB.out hb'⟩
          case measure=>simp [intOf];omega
      · have hkn:k=n:=by omega
        go_wp2;go_ret;exact ⟨hb,_,rfl,.inr ⟨by first | exact hnn | (rw [hkn] at hnn;exact hnn),by first | rfl | rw [hkn]⟩⟩
set_option maxHeartbeats 1000000 in
theorem toRow_any (key:Int) (n:Nat) (R:Nat→Vr) (a:Option Addr) (cap:Nat) (w:World) (hn:n≤1048576) (h:VersAt w a n R) :
    Calls Tryz.prog 117 #[.agg #[.int .i64 key,.slice a n cap]] w fun e w'=>
      ∃B,e=.returned (.agg #[.int .i64 key,.slice (some ⟨B,0,none⟩) n n])∧Below w.heap.size w w'∧Own4 w' w.heap.size w'.heap.size (some ⟨B,0,none⟩) n R:=by
  go_enter Tryz.func117,Tryz.ntmps117;go_wp2_with fail;have hb0:∀o1 o2 o3,Below w.heap.size w (((w.alloc o1).alloc o2).alloc o3):=fun o1 o2 o3=>(((Below.refl _ _).alloc (Nat.le_refl _) _).alloc (by simp) _).alloc (by simp;omega) _;refine (toVersionS_any n R a cap _ (by omega) (h.below (hb0 _ _ _))).mono ?_;rintro e w1 ⟨B,rfl,hb1,hr1⟩;obtain ⟨hc,hf⟩:=bcell2 hb1;have hz:w.heap.size+2<w1.heap.size:=(by have:=hb1.size;simp at this;omega);have HBF:Hid (Below w.heap.size w w1):=below_then (hb0 _ _ _) hb1;go_wp2_with fail;refine bodyPost_ret (v:=.agg #[.int .i64 key,.slice (some ⟨B,0,none⟩) n n]) (by simp [results,Tryz.results117,go_sem,hc]) rfl ⟨_,rfl,?_,?_⟩
  · repeat (first | with_reducible exact HBF.out | with_reducible refine Below.setCell ?_ (by first | omega | (simp <;> omega)) _)
  · have e3:∀o1 o2 o3:Obj,(((w.alloc o1).alloc o2).alloc o3).heap.size=w.heap.size+3:=fun _ _ _=>by simp
    rw [e3] at hr1
    have hw:∀w3,Writes w.heap.size (w.heap.size+3) w1 w3→w3.heap.size=w1.heap.size→Own4 w3 w.heap.size w3.heap.size (some ⟨B,0,none⟩) n R:=fun w3 h e=>
      (hr1.writes h (.inr (Nat.le_refl _))).wide (by omega) (by omega) (Nat.le_refl _)
    refine hw _ ?_ (by simp [World.setCell])
    repeat (first | with_reducible exact Writes.refl _ _ _ | with_reducible refine Writes.setCell ?_ (by first | omega | (simp <;> omega)) (by first | omega | (simp <;> omega)) _)
theorem pref_zRw (T:Nat→Rw) (k:Nat):pref T (fun _=>zRw) k k=zRw:=pref_at _ _ _
set_option maxHeartbeats 2000000 in
theorem toRowS_any (n:Nat) (T:Nat→Rw) (a:Option Addr) (cap:Nat) (w:World) (hn:n≤1048576) (hL:∀i,i<n→(T i).n≤1048576) (h:RwsAt w a n T) :
    Calls Tryz.prog 65 #[.slice a n cap] w fun e w'=>
      e=.returned (.slice (some ⟨w.heap.size,0,none⟩) n n)∧Below w.heap.size w w'∧OwnRw w' w.heap.size w'.heap.size (some ⟨w.heap.size,0,none⟩) n T:=by
  have hmk:=run_make_Rw n (by omega);have HL:Hid (∀i,i<n→(T i).n≤1048576):=hL;have HA:Hid (RwsAt w a n T):=h;clear hL h;go_enter Tryz.func65,Tryz.ntmps65;go_wp2;clear hmk;go_loopw [4] (fun i wr=>∃k:Nat,k≤n∧i=.int .i64 k∧Hid (Below w.heap.size w wr)∧Hid (OwnRw wr w.heap.size wr.heap.size (some ⟨w.heap.size,0,none⟩) n (pref T (fun _=>zRw) k))) (fun i _=>n-(intOf i).toNat)
  case atStart=>exact ⟨0,Nat.zero_le _,rfl,(Below.refl _ _).alloc (Nat.le_refl _) _,by rw [pref_zero];exact (made_Rw w n).wide (Nat.le_refl _) (by simp) (Nat.le_refl _)⟩
  case round=>
    obtain ⟨k,hk,rfl,HB,HO⟩:=hrel
    by_cases hlt:k<n
    · rcases HA.out.below HB.out with h | ⟨b,off,rfl,hl,hc⟩
      · omega
      obtain ⟨ai,ci,hC,hby,-⟩:=hc k hlt;obtain ⟨q0,q1⟩:=hC;have HY:Hid (VersAt wr ai (T k).n (T k).U):=hby;obtain ⟨h0,h1 | ⟨b1,off1,ha,hlo,hl1,hf,l,h,hd,hc1⟩⟩:=HO.out
      · omega
      simp only [Option.some.injEq,Addr.mk.injEq,and_true] at ha;obtain ⟨rfl,rfl⟩:=ha;obtain ⟨_,_,ai',ci',hC1,-⟩:=hc1 k hlt;rw [pref_zRw,Nat.zero_add] at hC1;have hsz:w.heap.size<wr.heap.size:=(by omega);have hlt':(k:Int)<(n:Int):=(by omega);have hk0:(0:Int)≤(k:Int):=(by omega);clear hc hby hc1 hd;go_wp2_with fail;refine (toRow_any (T k).key (T k).n (T k).U ai ci wr (HL.out k hlt) HY.out).mono ?_;rintro e w1 ⟨B,rfl,hb1,hr1⟩;have HB1:Hid (Below wr.heap.size wr w1):=hb1;have HR1:Hid (Own4 w1 wr.heap.size w1.heap.size (some ⟨B,0,none⟩) (T k).n (T k).U):=hr1;have hC2:=hC1.block (hb1.block _ hsz);obtain ⟨y0,y1⟩:=hC2;replace hf:∀i,w1.frozen? ⟨w.heap.size,i,none⟩=false:=fun i=>(hb1.frozen (p:=⟨_,_,none⟩) hsz).trans (hf i);clear hb1 hr1 hC1 q0 q1;go_wp2_with fail;go_roundw
      case rel=>
        have HS:=(HO.out.below HB1.out).store (t:=T k) hlt (Nat.le_refl _) (Nat.le_refl _) HB1.out.size (Nat.le_refl _) (Nat.le_refl _) HR1.out;rw [pref_upf,Nat.zero_add] at HS;refine ⟨k+1,hlt,by go_num,setRw_below (t:=T k) (o:=k*2) (ai:=some ⟨B,0,none⟩) (ci:=(T k).n) (below_then HB.out HB1.out) (Nat.le_refl _),?_⟩;have es:(setRw w1 w.heap.size (k*2) (T k) (some ⟨B,0,none⟩) (T k).n).heap.size=w1.heap.size:=setRw_size;rw [←es] at HS;exact HS
      case measure=>simp [intOf];omega
    · have hkn:k=n:=by omega
      have HT:Hid (OwnRw wr w.heap.size wr.heap.size (some ⟨w.heap.size,0,none⟩) n T):=by
        refine HO.out.congr fun i hi=>pref_lt _ _ (by omega)
      have hnl:¬((k:Int)<(n:Int)):=(by omega);go_wp2_with fail;go_ret;exact ⟨rfl,HB.out,HT.out⟩
end Go.Proofs.YtjdodbiphijjgaaGreat
