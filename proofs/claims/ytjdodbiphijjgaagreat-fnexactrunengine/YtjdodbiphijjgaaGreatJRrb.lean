import Derived.Test.YtjdodbiphijjgaaGreatJDoc
import Derived.Test.YtjdodbiphijjgaaGreatJCmc
import Derived.Test.YtjdodbiphijjgaaGreatJVj
import Derived.Deep.AppendLies
import Derived.Laws.AppendOwn
import Derived.OwnWalk
import Derived.Test.YtjdodbiphijjgaaGreatJBox
import Derived.Deep.RegionLaw
import Derived.Lib.SmallJoins
namespace Go.Proofs.YtjdodbiphijjgaaGreat
open Go.ChangeShapes Go.WideShapes Go.ChangeAt Go.RowKit Go.Deep Go.Joins
set_option linter.unusedVariables false
set_option maxRecDepth 20000
theorem Own.keep {w w':World} {lo hi:Nat} {a:Option Addr} {n:Nat} {K V:Nat→Int} (h:Own w lo hi a n K V) (hs:w.heap.size≤w'.heap.size) (hk:∀x,lo≤x→x<hi→x<w.heap.size→w'.heap[x]? = w.heap[x]?):Own w' lo hi a n K V:=by
  obtain ⟨h0,h1 | ⟨b,off,ha,h2,hl,hk',hv,hf,hg⟩⟩:=h
  · exact ⟨Nat.le_trans h0 hs,.inl h1⟩
  · have hb:=hk b h2 hl (by omega)
    exact ⟨Nat.le_trans h0 hs,.inr ⟨b,off,ha,h2,hl,fun i hi=>(World.cell?_of_block (w:=w) (a:=⟨b,_,none⟩) hb).trans (hk' i hi),fun i hi=>(World.cell?_of_block (w:=w) (a:=⟨b,_,none⟩) hb).trans (hv i hi),
      fun i hi=>(World.frozen?_of_block (w:=w) (a:=⟨b,_,none⟩) hb).trans (hf i hi),fun i hi=>(World.frozen?_of_block (w:=w) (a:=⟨b,_,none⟩) hb).trans (hg i hi)⟩⟩
def hdRp (w:World) (b o:Nat) (t:Rp):World:=(w.setCell ⟨b,o,none⟩ (.int .i64 t.cd)).setCell ⟨b,o+1,none⟩ (.int .i64 t.vl)
theorem hdRp_size {w:World} {b o:Nat} {t:Rp}:(hdRp w b o t).heap.size=w.heap.size:=by simp [hdRp,World.setCell]
theorem hdRp_far {w:World} {b o o':Nat} {t:Rp} (h:o'<o∨o+1<o'):(hdRp w b o t).cell? ⟨b,o',none⟩=w.cell? ⟨b,o',none⟩:=by
  unfold hdRp;rw [setO (by omega),setO (by omega)]
theorem hdRp_frozen {w:World} {b o:Nat} {t:Rp} {p:Addr}:(hdRp w b o t).frozen? p=w.frozen? p:=by
  unfold hdRp;rw [World.frozen?_setCell,World.frozen?_setCell]
theorem hdRp_same {w:World} {b o:Nat} {t t0:Rp} {ai:Option Addr} {ci:Nat} (h:CRp w b o t0 ai ci) (hn:t.cn=t0.cn):CRp (hdRp w b o t) b o t ai ci:=by
  obtain ⟨h0,h1,h2⟩:=h;refine ⟨?_,?_,?_⟩
  · unfold hdRp;rw [setO (by omega)];exact setS h0
  · unfold hdRp;exact setS (by rw [setO (by omega)];exact h1)
  · rw [hn,hdRp_far (by omega)];exact h2
theorem hdRp_writes {lo hi:Nat} {w wr:World} {b o:Nat} {t:Rp} (h:Writes lo hi w wr) (h1:lo≤b) (h2:b<hi):Writes lo hi w (hdRp wr b o t):=by
  unfold hdRp;exact (h.setCell (p:=⟨b,_,none⟩) h1 h2 _).setCell (p:=⟨b,_,none⟩) h1 h2 _
def OwnRpP (w:World) (P:Nat→Prop) (a:Option Addr) (n:Nat) (T:Nat→Rp):Prop:=
  n=0∨∃b off,a=some ⟨b,off,none⟩∧P b∧b<w.heap.size∧(∀i,w.frozen? ⟨b,i,none⟩=false)∧∃l h:Nat→Nat,(∀i j,i<n→j<n→i≠j→h i≤l j∨h j≤l i)∧
    ∀i,i<n→(b<l i∨h i≤b)∧(∀x,l i≤x→x<h i→P x)∧∃ai ci,CRp w b (off+i*3) (T i) ai ci∧LeC (T i).cn (ci)∧Own w (l i) (h i) ai (T i).cn (T i).cK (T i).cV
theorem OwnRpP.at {w:World} {P:Nat→Prop} {a:Option Addr} {n:Nat} {T:Nat→Rp} (h:OwnRpP w P a n T):RpsAt w a n T:=by
  obtain h1 | ⟨b,off,ha,_,hl,_,l,h,_,hc⟩:=h
  · exact .inl h1
  · refine .inr ⟨b,off,ha,hl,fun i hi=>?_⟩;obtain ⟨_,_,ai,ci,k1,k2,k3⟩:=hc i hi;exact ⟨ai,ci,k1,⟨k3.at,trivial⟩,k2⟩
theorem OwnRpP.keep {w w':World} {P:Nat→Prop} {a:Option Addr} {n:Nat} {T:Nat→Rp} (h:OwnRpP w P a n T) (hs:w.heap.size≤w'.heap.size) (hk:∀x,P x→x<w.heap.size→w'.heap[x]? = w.heap[x]?):OwnRpP w' P a n T:=by
  obtain h1 | ⟨b,off,ha,hp,hl,hf,l,h,hj,hc⟩:=h
  · exact .inl h1
  · have e:=hk b hp hl;refine .inr ⟨b,off,ha,hp,Nat.lt_of_lt_of_le hl hs,fun i=>(World.frozen?_of_block (w:=w) (a:=⟨b,i,none⟩) e).trans (hf i),l,h,hj,fun i hi=>?_⟩;obtain ⟨k0,k1,ai,ci,k2,k3,k4⟩:=hc i hi;exact ⟨k0,k1,ai,ci,k2.block e,k3,k4.keep hs fun x h1 h2 h3=>hk x (k1 x h1 h2) h3⟩
theorem OwnRpP.mono {w:World} {P P':Nat→Prop} {a:Option Addr} {n:Nat} {T:Nat→Rp} (h:OwnRpP w P a n T) (hp:∀x,P x→P' x):OwnRpP w P' a n T:=by
  obtain h1 | ⟨b,off,ha,h2,hl,hf,l,h,hj,hc⟩:=h
  · exact .inl h1
  · refine .inr ⟨b,off,ha,hp _ h2,hl,hf,l,h,hj,fun i hi=>?_⟩;obtain ⟨k0,k1,r⟩:=hc i hi;exact ⟨k0,fun x x1 x2=>hp x (k1 x x1 x2),r⟩
theorem OwnRpP.congr {w:World} {P:Nat→Prop} {a:Option Addr} {n:Nat} {T T':Nat→Rp} (h:OwnRpP w P a n T) (e:∀i,i<n→T i=T' i):OwnRpP w P a n T':=by
  obtain h1 | ⟨b,off,ha,h2,hl,hf,l,h,hj,hc⟩:=h
  · exact .inl h1
  · exact .inr ⟨b,off,ha,h2,hl,hf,l,h,hj,fun i hi=>by rw [←e i hi];exact hc i hi⟩
theorem OwnRpP.pick {w:World} {P:Nat→Prop} {a:Option Addr} {n:Nat} {T:Nat→Rp} (h:OwnRpP w P a n T) {j:Nat} (hj:j<n) :
    ∃b off ai ci l h,a=some ⟨b,off,none⟩∧P b∧b<w.heap.size∧(∀i,w.frozen? ⟨b,i,none⟩=false)∧CRp w b (off+j*3) (T j) ai ci∧LeC (T j).cn (ci)∧(b<l∨h≤b)∧(∀x,l≤x→x<h→P x)∧Own w l h ai (T j).cn (T j).cK (T j).cV∧
      ∀t w1,t.cn=(T j).cn→Writes l h (hdRp w b (off+j*3) t) w1→Own w1 l h ai t.cn t.cK t.cV→OwnRpP w1 P a n (upf9 T j t):=by
  obtain h1 | ⟨b,off,ha,hlo,hl,hf,l,h,hd,hc⟩:=h
  · omega
  obtain ⟨k0,k1,ai,ci,k2,k3,k4⟩:=hc j hj;refine ⟨b,off,ai,ci,l j,h j,ha,hlo,hl,hf,k2,k3,k0,k1,k4,fun t w1 hn hw hr=>?_⟩;have hsz:w.heap.size≤w1.heap.size:=(by have:=hw.size;rw [hdRp_size] at this;exact this);have eb:w1.heap[b]? = (hdRp w b (off+j*3) t).heap[b]?:=hw.block b (by rw [hdRp_size];omega) (by omega);have cb:∀q,w1.cell? ⟨b,q,none⟩=(hdRp w b (off+j*3) t).cell? ⟨b,q,none⟩:=fun q=>World.cell?_of_block (w:=hdRp w b (off+j*3) t) (a:=⟨b,q,none⟩) eb;refine .inr ⟨b,off,ha,hlo,Nat.lt_of_lt_of_le hl hsz,fun i=>?_,l,h,hd,fun i hi=>?_⟩
  · rw [World.frozen?_of_block (w:=hdRp w b (off+j*3) t) (a:=⟨b,i,none⟩) eb,hdRp_frozen];exact hf i
  · obtain ⟨m0,m1,ai',ci',m2,m3,m4⟩:=hc i hi
    by_cases e:i=j
    · subst e;rw [upf9_eq];exact ⟨m0,m1,ai,ci,(hdRp_same k2 hn).block eb,by rw [hn];exact k3,hr⟩
    · rw [upf9_ne _ _ e];refine ⟨m0,m1,ai',ci',?_,m3,?_⟩
      · have g:∀q,q<3→w1.cell? ⟨b,off+i*3+q,none⟩=w.cell? ⟨b,off+i*3+q,none⟩:=fun q hq=>(cb _).trans (hdRp_far (by omega));obtain ⟨h0,h1,h2⟩:=m2;exact ⟨(g 0 (by omega)).trans h0,(g 1 (by omega)).trans h1,(g 2 (by omega)).trans h2⟩
      · have hdd:=hd i j hi hj e;have m5:=m4.writes (w':=hdRp w b (off+j*3) t) (lo':=b) (hi':=b+1) (hdRp_writes (Writes.refl _ _ _) (Nat.le_refl _) (Nat.lt_succ_self _)) (by omega);exact m5.writes hw (by omega)
def sRp (T:Nat→Rp) (i:Nat):Nat:=smf9 (fun i=>(T i).cn*2+2) i
theorem sRp_eq (T:Nat→Rp) (i:Nat):sRp T i=smRp T i*2+i*2:=smf9_add _ _ _ _
def mRp (m:Int) (T:Nat→Rp) (i:Nat):Rp:=⟨m+sRp T i,m+sRp T i+1,(T i).cn,mK (m+sRp T i+2),mK (m+sRp T i+2+1)⟩
set_option maxHeartbeats 2000000 in
theorem markReplyS_P (n:Nat) (T:Nat→Rp) (a:Option Addr) (cap:Nat) (P:Nat→Prop) (m:Int) (w:World) (hn:n≤1048576) (hs:smRp T n≤1048576) (hm1:0≤m) (hm2:m≤16777216) (h:OwnRpP w P a n T) :
    Calls Tryz.prog 92 #[.slice a n cap,.int .i64 m] w fun e w'=>e=.returned (.int .i64 (m+sRp T n))∧WritesP P w w'∧OwnRpP w' P a n (mRp m T):=by
  have HO:Hid (OwnRpP w P a n T):=h;clear h;go_enter Tryz.func92,Tryz.ntmps92;go_wp2;go_loopw [1,5] (fun q i wr=>∃k:Nat,k≤n∧i=.int .i64 k∧q=.int .i64 (m+sRp T k)∧Hid (WritesP P w wr)∧Hid (OwnRpP wr P a n (pref9 (mRp m T) T k))) (fun _ i _=>n-(intOf i).toNat)
  case atStart=>exact ⟨0,Nat.zero_le _,rfl,by simp [sRp,smf9],WritesP.refl _ _,by rw [pref9_zero];exact HO⟩
  case round=>
    obtain ⟨k,hk0,rfl,rfl,HB,HP⟩:=hrel
    by_cases hlt:k<n
    · obtain ⟨b,off,ai,ci,l,h,rfl,hb1,hb2,hf,hC,hci,hbd,hr,hO,hU⟩:=HP.out.pick hlt;rw [pref9_at] at hC hci hO hU;have hLk:=smf9_ge (fun i=>szRp (T i)) n k hlt;have hsk:=smf9_le (fun i=>szRp (T i)) (n:=n) (i:=k) (by omega);have hstep:(sRp T (k+1):Int)=sRp T k+(T k).cn*2+2:=(by simp [sRp,smf9];omega);have hbS:sRp T k=smRp T k*2+k*2:=sRp_eq T k;have HM:Hid (mRp m T k=⟨m+sRp T k,m+sRp T k+1,(T k).cn,mK (m+sRp T k+2),mK (m+sRp T k+2+1)⟩):=rfl;have hSb:(sRp T k:Int)≤4194304:=(by unfold smRp szRp at *;omega);have hS0:0≤(sRp T k:Int):=(by omega);have hTk:(T k).cn≤1048576:=(by unfold smRp szRp at *;omega);generalize hS:(sRp T k:Int)=S at *;have HU:Hid (∀t w1,t.cn=(T k).cn→Writes l h (hdRp wr b (off+k*3) t) w1→Own w1 l h ai t.cn t.cK t.cV→OwnRpP w1 P (some ⟨b,off,none⟩) n (upf9 (pref9 (mRp m T) T k) k t)):=hU;have HO2:Hid (Own (hdRp wr b (off+k*3) ⟨m+S,m+S+1,(T k).cn,mK (m+S+2),mK (m+S+2+1)⟩) l h ai (T k).cn (T k).cK (T k).cV):=hO.writes (hdRp_writes (Writes.refl _ _ _) (Nat.le_refl _) (Nat.lt_succ_self _)) (by omega);have HG:Hid (P b∧∀x,l≤x→x<h→P x):=⟨hb1,hr⟩;obtain ⟨q0,q1,q2⟩:=hC;have g1:IntKind.i64.wrap (m+S+1)=m+S+1:=(by rw [IntKind.wrap_i64];omega);have g2:IntKind.i64.wrap (m+S+1+1)=m+S+2:=(by rw [IntKind.wrap_i64];omega);clear HP hO hU hb1 hb2 hbd hr hbS hS hLk hsk;go_wp2_with fail;refine (markCellS_any (T k).cn (T k).cK (T k).cV ai ci l h (m+S+2) _ (by omega) (by omega) (by omega) HO2.out).mono ?_;rintro e w1 ⟨rfl,hw,hr⟩;have HW:Hid (Writes l h (hdRp wr b (off+k*3) ⟨m+S,m+S+1,(T k).cn,mK (m+S+2),mK (m+S+2+1)⟩) w1):=hw;have HR1:Hid (Own w1 l h ai (T k).cn (mK (m+S+2)) (mK (m+S+2+1))):=hr;clear hw hr;go_wp2_with fail;go_roundw
      case rel=>
        have H:=HU.out ⟨m+S,m+S+1,(T k).cn,mK (m+S+2),mK (m+S+2+1)⟩ w1 rfl HW.out HR1.out;rw [←HM.out,pref9_upf] at H;obtain ⟨g1,g2⟩:=HG.out;have HB2:WritesP P wr (hdRp wr b (off+k*3) ⟨m+S,m+S+1,(T k).cn,mK (m+S+2),mK (m+S+2+1)⟩):=WritesP.of (hdRp_writes (Writes.refl _ _ _) (Nat.le_refl b) (Nat.lt_succ_self b)) fun x x1 x2=>(show x=b by omega) ▸ g1;exact ⟨k+1,hlt,by go_num,by rw [hstep];go_num,HB.out.trans (HB2.trans (WritesP.of HW.out g2)),H⟩
      case measure=>simp [intOf];omega
    · have hkn:k=n:=by omega
      have HO2:Hid (OwnRpP wr P a n (mRp m T)):=HP.out.congr fun i hi=>pref9_lt _ _ (by omega);have hnl:¬((k:Int)<(n:Int)):=(by omega);go_wp2_with fail;go_ret;exact ⟨ret_int (by first | rfl | rw [hkn]),HB.out,HO2.out⟩
set_option maxHeartbeats 2000000 in
theorem heldReplyS_any (n:Nat) (T:Nat→Rp) (a:Option Addr) (cap:Nat) (m:Int) (w:World) (hn:n≤1048576) (hs:smRp T n≤1048576) (hm1:0≤m) (hm2:m≤16777216) (h:RpsAt w a n (mRp m T)) :
    Calls Tryz.prog 93 #[.slice a n cap,.int .i64 m] w fun e w'=>e=.returned (.int .i64 (m+sRp T n))∧w'=w:=by
  have HA:Hid (RpsAt w a n (mRp m T)):=h;clear h;go_enter Tryz.func93,Tryz.ntmps93;go_wp2;go_loop [1,5] (fun q i=>∃k:Nat,k≤n∧i=.int .i64 k∧q=.int .i64 (m+sRp T k)) (fun _ i=>n-(intOf i).toNat)
  case atStart=>exact ⟨0,Nat.zero_le _,rfl,by simp [sRp,smf9]⟩
  case round=>
    obtain ⟨k,hk0,rfl,rfl⟩:=hrel
    by_cases hlt:k<n
    · rcases HA.out with h | ⟨b,off,rfl,hl,hc⟩
      · omega
      obtain ⟨ai,ci,⟨q0,q1,q2⟩,⟨hy,-⟩,-⟩:=hc k hlt;unfold mRp at q0 q1 q2;dsimp only at q0 q1 q2;have HY:Hid (CellsAt w ai (T k).cn (mK (m+sRp T k+2)) (mK (m+sRp T k+2+1))):=hy;have hLk:=smf9_ge (fun i=>szRp (T i)) n k hlt;have hsk:=smf9_le (fun i=>szRp (T i)) (n:=n) (i:=k) (by omega);have hstep:(sRp T (k+1):Int)=sRp T k+(T k).cn*2+2:=(by simp [sRp,smf9];omega);have hbS:sRp T k=smRp T k*2+k*2:=sRp_eq T k;have hSb:(sRp T k:Int)≤4194304:=(by unfold smRp szRp at *;omega);have hS0:0≤(sRp T k:Int):=(by omega);have hTk:(T k).cn≤1048576:=(by unfold smRp szRp at *;omega);generalize hS:(sRp T k:Int)=S at *;have hneg:¬(m+S+2+((T k).cn:Int)*2<0):=(by omega);have g1:IntKind.i64.wrap (m+S+1)=m+S+1:=(by rw [IntKind.wrap_i64];omega);have g2:IntKind.i64.wrap (m+S+1+1)=m+S+2:=(by rw [IntKind.wrap_i64];omega);clear hc hy hbS hS hLk hsk;go_wp2_with fail;refine (heldCellS_any (T k).cn ai ci (m+S+2) _ (by omega) (by omega) (by omega) HY.out).mono ?_;rintro e w' ⟨rfl,rfl⟩;go_wp2_with fail;go_round
      case rel=>exact ⟨k+1,hlt,by go_num,by rw [hstep];go_num⟩
      case measure=>simp [intOf];omega
    · have hkn:k=n:=by omega
      have hnl:¬((k:Int)<(n:Int)):=(by omega);go_wp2_with fail;go_ret;exact ⟨ret_int (by first | rfl | rw [hkn]),rfl⟩
def rcRp (t:Rp) (A:Option Addr) (c:Nat):List Value:=[.int .i64 t.cd,.int .i64 t.vl,.slice A t.cn c]
def rbRp (T:Nat→Rp) (A:Nat→Option Addr) (c:Nat→Nat):Nat→List Value
  | 0=>[]
  | k+1=>rbRp T A c k ++ rcRp (T k) (A k) (c k)
theorem rbRp_len (T:Nat→Rp) (A:Nat→Option Addr) (c:Nat→Nat):∀k,(rbRp T A c k).length=k*3
  | 0=>rfl
  | k+1=>by simp only [rbRp,List.length_append,rbRp_len T A c k,rcRp,List.length_cons,List.length_nil];omega
theorem rbRp_get (T:Nat→Rp) (A:Nat→Option Addr) (c:Nat→Nat):∀k i j,i<k→j<3→(rbRp T A c k)[i*3+j]? = (rcRp (T i) (A i) (c i))[j]?
  | 0,i,j,h,_=>by omega
  | k+1,i,j,h,hj=>by
    simp only [rbRp]
    by_cases e:i=k
    · subst e;rw [List.getElem?_append_right (by rw [rbRp_len];omega),rbRp_len]
      congr 1;omega
    · rw [List.getElem?_append_left (by rw [rbRp_len];omega)];exact rbRp_get T A c k i j (by omega) hj
theorem rbRp_congr {T T':Nat→Rp} {A A':Nat→Option Addr} {c c':Nat→Nat}:∀k,(∀i,i<k→T i=T' i∧A i=A' i∧c i=c' i)→rbRp T A c k=rbRp T' A' c' k
  | 0,_=>rfl
  | k+1,h=>by
    obtain ⟨e1,e2,e3⟩:=h k (by omega);simp only [rbRp,e1,e2,e3,rbRp_congr k (fun i hi=>h i (by omega))]
theorem rcRp_one (t:Rp) (A:Option Addr) (c:Nat):∀u ∈ rcRp t A c,u.oneCell'=true:=by
  intro u hu;simp [rcRp] at hu
  rcases hu with rfl | rfl | rfl <;> rfl
def GrRp (base top:Nat) (w:World) (v:Value) (k:Nat) (T:Nat→Rp):Prop:=
  top≤w.heap.size∧∃(A:Nat→Option Addr) (c l h:Nat→Nat),w.ownsRow base 46 3 v k (rbRp T A c k)∧(∀q,v.ownBlock=some q→q<top)∧(∀i j,i<k→j<k→i≠j→h i≤l j∨h j≤l i)∧
    ∀i,i<k→(∀q,v.ownBlock=some q→q<l i∨h i≤q)∧(h i=0∨base≤l i∧h i≤top)∧LeC (T i).cn (c i)∧Own w (l i) (h i) (A i) (T i).cn (T i).cK (T i).cV
theorem GrRp.nil (base:Nat) (w:World) (T:Nat→Rp):GrRp base w.heap.size w (.slice none 0 0) 0 T:=
  ⟨Nat.le_refl _,fun _=>none,fun _=>0,fun _=>0,fun _=>0,World.ownsRow_nil _ _ _ _,fun q hq=>by simp [Value.ownBlock] at hq,fun i j hi=>by omega,fun i hi=>by omega⟩
theorem GrRp.writes {base top lo hi:Nat} {w w':World} {v:Value} {k:Nat} {T:Nat→Rp} (h:GrRp base top w v k T) (hw:Writes lo hi w w') (hd:hi≤base∨top≤lo):GrRp base top w' v k T:=by
  obtain ⟨h0,A,c,l,h,ho,hv,hj,hc⟩:=h;refine ⟨Nat.le_trans h0 hw.size,A,c,l,h,ownsRow_of ho fun q hq=>hw.block q (by have:=hv q hq;omega) (by have h1:=hv q hq;have h2:=(ho.lt q hq).1;omega),hv,hj,fun i hi=>?_⟩;obtain ⟨k1,k2,k3,k4⟩:=hc i hi;exact ⟨k1,k2,k3,k4.writes hw (by omega)⟩
theorem GrRp.below {base top:Nat} {w w':World} {v:Value} {k:Nat} {T:Nat→Rp} (h:GrRp base top w v k T) (hb:Below w.heap.size w w'):GrRp base top w' v k T:=
  h.writes (Writes.of_below (lo:=w.heap.size) (hi:=w.heap.size) hb) (.inr h.1)
theorem GrRp.congr {base top:Nat} {w:World} {v:Value} {k:Nat} {T T':Nat→Rp} (h:GrRp base top w v k T) (e:∀i,i<k→T i=T' i):GrRp base top w v k T':=by
  obtain ⟨h0,A,c,l,h,ho,hv,hj,hc⟩:=h;exact ⟨h0,A,c,l,h,by rw [←rbRp_congr k fun i hi=>⟨e i hi,rfl,rfl⟩];exact ho,hv,hj,fun i hi=>by rw [←e i hi];exact hc i hi⟩
theorem GrRp.own {base top:Nat} {w:World} {v:Value} {k:Nat} {T:Nat→Rp} (h:GrRp base top w v k T):∃a cap,v=.slice a k cap∧k≤cap∧OwnRpP w (fun x=>base≤x∧x<top) a k T:=by
  obtain ⟨h0,A,c,l,h,ho,hv,hj,hc⟩:=h;have hown:=ho;obtain ⟨h1,⟨rfl,rfl⟩ | ⟨g,cap,cur,rfl,k1,k2,k3,k4⟩⟩:=ho
  · exact ⟨none,0,rfl,Nat.le_refl _,.inl rfl⟩
  · have hg:=hv g rfl;refine ⟨_,cap,rfl,k3,.inr ⟨g,0,rfl,⟨k1,hg⟩,by omega,fun i=>hown.frozenAt _,l,h,hj,fun i hi=>?_⟩⟩;obtain ⟨m1,m2,m3,m4⟩:=hc i hi;refine ⟨m1 g rfl,fun x x1 x2=>by omega,A i,c i,?_,m3,m4⟩
    have cc:∀j v,j<3→(rcRp (T i) (A i) (c i))[j]? = some v→w.cell? ⟨g,0+i*3+j,none⟩=some v:=fun j v hj hv=>by
      rw [hown.cellAt (0+i*3+j) (by omega),show 0+i*3+j=i*3+j by omega,rbRp_get T A c k i j hi hj,hv]
    exact ⟨cc 0 _ (by omega) rfl,cc 1 _ (by omega) rfl,cc 2 _ (by omega) rfl⟩
theorem GrRp.step {base top l' h' g cap:Nat} {w w':World} {v:Value} {k:Nat} {T:Nat→Rp} {t:Rp} {ai:Option Addr} {ci:Nat} (hk:(h'=0∨top≤l'∧h'≤w.heap.size)) (hb:base≤top) (hn:LeC t.cn ci) (hu:Own w l' h' ai t.cn t.cK t.cV)
    (A:Nat→Option Addr) (c l h:Nat→Nat) (h0:top≤w.heap.size) (hv:∀q,v.ownBlock=some q→q<top) (hj:∀i j,i<k→j<k→i≠j→h i≤l j∨h j≤l i)
    (hc:∀i,i<k→(∀q,v.ownBlock=some q→q<l i∨h i≤q)∧(h i=0∨base≤l i∧h i≤top)∧LeC (T i).cn (c i)∧Own w (l i) (h i) (A i) (T i).cn (T i).cK (T i).cV)
    (ho:w'.ownsRow base 46 3 (.slice (some ⟨g,0,none⟩) (k+1) cap) (k+1) (rbRp T A c k ++ rcRp t ai ci)) (hg:w.grownBy w' v.ownBlock) (hl:v.ownBlock=some g∨g=w.heap.size) (hlt:g<w'.heap.size) :
    GrRp base w'.heap.size w' (.slice (some ⟨g,0,none⟩) (k+1) cap) (k+1) (upf9 T k t):=by
  have hsz:=hg.size
  have far:∀L H,(∀q,v.ownBlock=some q→q<L∨H≤q)→∀a n K V,Own w L H a n K V→Own w' L H a n K V:=by
    intro L H hq a n K V hO
    exact hO.keep hsz fun x x1 x2 x3=>hg.block x x3 fun e=>by have:=hq x e.symm;omega
  refine ⟨Nat.le_refl _,fun i=>if i=k then ai else A i,fun i=>if i=k then ci else c i,fun i=>if i=k then l' else l i,fun i=>if i=k then h' else h i,?_,fun q hq=>by simp [Value.ownBlock] at hq;subst hq;exact hlt,fun i j hi hj' hne=>?_,fun i hi=>?_⟩
  · have e:rbRp (upf9 T k t) (fun i=>if i=k then ai else A i) (fun i=>if i=k then ci else c i) (k+1)=rbRp T A c k ++ rcRp t ai ci:=by
      simp only [rbRp,upf9_eq,if_true]
      congr 1
      exact rbRp_congr k fun i hi=>⟨upf9_ne _ _ (by omega),if_neg (by omega),if_neg (by omega)⟩
    rw [e];exact ho
  · by_cases c1:i=k <;> by_cases c2:j=k <;> simp only [c1,c2,if_true,if_false]
    · omega
    · have:=(hc j (by omega)).2.1;omega
    · have:=(hc i (by omega)).2.1;omega
    · exact hj i j (by omega) (by omega) hne
  · by_cases e:i=k
    · subst e;simp only [if_true,upf9_eq];refine ⟨fun q hq=>?_,by omega,hn,far l' h' (fun q hq=>by have:=hv q hq;omega) _ _ _ _ hu⟩;simp only [Value.ownBlock,Option.some.injEq] at hq;subst hq
      rcases hl with hl | hl
      · have:=hv g hl;omega
      · omega
    · simp only [if_neg e];rw [upf9_ne _ _ e];obtain ⟨m1,m2,m3,m4⟩:=hc i (by omega);refine ⟨fun q hq=>?_,by omega,m3,far _ _ m1 _ _ _ _ m4⟩;simp only [Value.ownBlock,Option.some.injEq] at hq;subst hq
      rcases hl with hl | hl
      · exact m1 g hl
      · omega
theorem wp_grRp {o:Oper} {a:Act} {Kc:Act→World→Prop} {Q:Exit→Act→World→Prop} (w:World) (s x:Operand)
    (ho:o.op=.call { callee:=.builtin .append,args:=#[s,x],argTypes:=#[59,59] })
    (base top:Nat) (v:Value) (k:Nat) (T:Nat→Rp) (hs:a.eval s=v) (hgr:GrRp base top w v k T) (X O cx:Nat) (t:Rp) (ai:Option Addr) (ci l' h':Nat) (hx:a.eval x=.slice (some ⟨X,O,none⟩) 1 cx) (hC:CRp w X O t ai ci)
    (hk:(h'=0∨top≤l'∧h'≤w.heap.size)) (hb:base≤top) (hn:LeC t.cn ci) (hu:Own w l' h' ai t.cn t.cK t.cV) (hlen:k≤100000)
    (hK:∀g cap w',GrRp base w'.heap.size w' (.slice (some ⟨g,0,none⟩) (k+1) cap) (k+1) (upf9 T k t)→w.grownBy w' v.ownBlock→(v.ownBlock=some g∨g=w.heap.size)→Kc (a.put o.dst (.slice (some ⟨g,0,none⟩) (k+1) cap)) w'):o.wp Tryz.prog a w Kc Q:=by
  obtain ⟨i0,hi,hz0,hz1,hz2⟩:=info_parts2 infoRp;obtain ⟨h0,A,c,l,h,hown,hv,hj,hc⟩:=hgr;refine wp_append_lies w s x 59 ho base 46 i0 _ 3 40 Tryz.underlying59 hi hz0 hz1 hz2 rfl (by decide) v k (rbRp T A c k) hs hown ⟨X,O,none⟩ 1 cx (rcRp t ai ci) hx rfl (fun j u hju=>?_) (rcRp_one _ _ _) (by decide) (by unfold maxLen;omega) (by omega) (by omega) _ rfl ?_
  · obtain ⟨h0,h1,h2⟩:=hC;rw [WideShapes.add_plain];have hd:j<3:=(by have:=(List.getElem?_eq_some_iff.1 hju).1;simpa [rcRp] using this);have hd2:j=0∨j=1∨j=2:=(by omega)
    rcases hd2 with rfl | rfl | rfl
    · rw [←hju];rw [Nat.add_zero];exact h0
    · rw [←hju];exact h1
    · rw [←hju];exact h2
  · intro g cap w' ho2 hg2 hl2 hlt2;exact hK g cap w' (GrRp.step hk hb hn hu A c l h h0 hv hj hc ho2 hg2 hl2 hlt2) hg2 hl2
theorem wpList_grRp {ops:Array Oper} {rest:List Oper} {o:Oper} {a:Act} {Q:Exit→Act→World→Prop} (w:World) (hgd:o.guard=none) (s x:Operand)
    (ho:o.op=.call { callee:=.builtin .append,args:=#[s,x],argTypes:=#[59,59] })
    (base top:Nat) (v:Value) (k:Nat) (T:Nat→Rp) (hs:a.eval s=v) (hgr:GrRp base top w v k T) (X O cx:Nat) (t:Rp) (ai:Option Addr) (ci l' h':Nat) (hx:a.eval x=.slice (some ⟨X,O,none⟩) 1 cx) (hC:CRp w X O t ai ci)
    (hk:(h'=0∨top≤l'∧h'≤w.heap.size)) (hb:base≤top) (hn:LeC t.cn ci) (hu:Own w l' h' ai t.cn t.cK t.cV) (hlen:k≤100000)
    (hK:∀g cap w',GrRp base w'.heap.size w' (.slice (some ⟨g,0,none⟩) (k+1) cap) (k+1) (upf9 T k t)→w.grownBy w' v.ownBlock→(v.ownBlock=some g∨g=w.heap.size)→wpList Tryz.prog ops Q rest (a.put o.dst (.slice (some ⟨g,0,none⟩) (k+1) cap)) w'):wpList Tryz.prog ops Q (o :: rest) a w:=
  wpList_plain hgd fun _ hKK=>wp_grRp w s x ho base top v k T hs hgr X O cx t ai ci l' h' hx hC hk hb hn hu hlen fun g cap w' h2 h3 h4=>hKK _ _ (hK g cap w' h2 h3 h4)
structure Ac where
  k:Int
  t:Int
  y:Int
  o:Int
def CAc (w:World) (b o:Nat) (r:Ac):Prop:=
  w.cell? ⟨b,o,none⟩=some (.int .i64 r.k)∧w.cell? ⟨b,o+1,none⟩=some (.int .i64 r.t)∧w.cell? ⟨b,o+2,none⟩=some (.int .i64 r.y)∧w.cell? ⟨b,o+3,none⟩=some (.int .i64 r.o)
theorem CAc.block {w w':World} {b o:Nat} {r:Ac} (h:CAc w b o r) (e:w'.heap[b]? = w.heap[b]?):CAc w' b o r:=by
  have g:∀i,w'.cell? ⟨b,i,none⟩=w.cell? ⟨b,i,none⟩:=fun i=>World.cell?_of_block (w:=w) (a:=⟨b,i,none⟩) e;obtain ⟨h0,h1,h2,h3⟩:=h;exact ⟨(g _).trans h0,(g _).trans h1,(g _).trans h2,(g _).trans h3⟩
def AcsAt (w:World) (a:Option Addr) (n:Nat) (R:Nat→Ac):Prop:=n=0∨∃b off,a=some ⟨b,off,none⟩∧b<w.heap.size∧∀i,i<n→CAc w b (off+i*4) (R i)
def RowAc (w:World) (b off n:Nat) (R:Nat→Ac):Prop:=(∀i,i<n→CAc w b (off+i*4) (R i))∧∀i,w.frozen? ⟨b,i,none⟩=false
def OwnAc (w:World) (lo hi:Nat) (a:Option Addr) (n:Nat) (R:Nat→Ac):Prop:=hi≤w.heap.size∧(n=0∨∃b off,a=some ⟨b,off,none⟩∧lo≤b∧b<hi∧RowAc w b off n R)
theorem AcsAt.below {w w':World} {a:Option Addr} {n:Nat} {R:Nat→Ac} (h:AcsAt w a n R) (hb:Below w.heap.size w w'):AcsAt w' a n R:=by
  rcases h with h | ⟨b,off,ha,hl,hc⟩
  · exact .inl h
  · exact .inr ⟨b,off,ha,Nat.lt_of_lt_of_le hl hb.size,fun i hi=>(hc i hi).block (hb.block _ hl)⟩
theorem OwnAc.at {w:World} {lo hi:Nat} {a:Option Addr} {n:Nat} {R:Nat→Ac} (h:OwnAc w lo hi a n R):AcsAt w a n R:=by
  obtain ⟨h0,h1 | ⟨b,off,ha,_,hl,hc⟩⟩:=h
  · exact .inl h1
  · exact .inr ⟨b,off,ha,by omega,hc.1⟩
theorem OwnAc.writes {w w':World} {lo hi lo' hi':Nat} {a:Option Addr} {n:Nat} {R:Nat→Ac} (h:OwnAc w lo hi a n R) (hw:Writes lo' hi' w w') (hd:hi≤lo'∨hi'≤lo):OwnAc w' lo hi a n R:=by
  obtain ⟨h0,h1 | ⟨b,off,ha,h2,hl,hc⟩⟩:=h
  · exact ⟨Nat.le_trans h0 hw.size,.inl h1⟩
  · have hb:=hw.block b (by omega) (by omega);exact ⟨Nat.le_trans h0 hw.size,.inr ⟨b,off,ha,h2,hl,fun i hi=>(hc.1 i hi).block hb,fun i=>(World.frozen?_of_block (w:=w) (a:=⟨b,i,none⟩) hb).trans (hc.2 i)⟩⟩
theorem OwnAc.below {w w':World} {lo hi:Nat} {a:Option Addr} {n:Nat} {R:Nat→Ac} (h:OwnAc w lo hi a n R) (hb:Below w.heap.size w w'):OwnAc w' lo hi a n R:=
  h.writes (Writes.of_below (lo:=hi) (hi:=hi) hb) (.inl (Nat.le_refl _))
def setAc (w:World) (b o:Nat) (r:Ac):World:=
  (((w.setCell ⟨b,o,none⟩ (.int .i64 r.k)).setCell ⟨b,o+1,none⟩ (.int .i64 r.t)).setCell ⟨b,o+2,none⟩ (.int .i64 r.y)).setCell ⟨b,o+3,none⟩ (.int .i64 r.o)
theorem setAc_far {w:World} {b o o':Nat} {r:Ac} (h:o'<o∨o+3<o'):(setAc w b o r).cell? ⟨b,o',none⟩=w.cell? ⟨b,o',none⟩:=by
  unfold setAc;rw [setO (by omega),setO (by omega),setO (by omega),setO (by omega)]
theorem setAc_same {w:World} {b o:Nat} {r r0:Ac} (h:CAc w b o r0):CAc (setAc w b o r) b o r:=by
  obtain ⟨h0,h1,h2,h3⟩:=h;unfold setAc;refine ⟨?_,?_,?_,?_⟩
  · rw [setO (by omega),setO (by omega),setO (by omega)];exact setS h0
  · rw [setO (by omega),setO (by omega)];exact setS (by rw [setO (by omega)];exact h1)
  · rw [setO (by omega)];exact setS (by rw [setO (by omega),setO (by omega)];exact h2)
  · exact setS (by rw [setO (by omega),setO (by omega),setO (by omega)];exact h3)
theorem setAc_frozen {w:World} {b o:Nat} {r:Ac} (h:∀i,w.frozen? ⟨b,i,none⟩=false):∀i,(setAc w b o r).frozen? ⟨b,i,none⟩=false:=fun i=>by
  unfold setAc;rw [World.frozen?_setCell,World.frozen?_setCell,World.frozen?_setCell,World.frozen?_setCell];exact h i
theorem setAc_writes {lo hi:Nat} {w wr:World} {b o:Nat} {r:Ac} (h:Writes lo hi w wr) (h1:lo≤b) (h2:b<hi):Writes lo hi w (setAc wr b o r):=by
  unfold setAc;exact (((h.setCell (p:=⟨b,_,none⟩) h1 h2 _).setCell (p:=⟨b,_,none⟩) h1 h2 _).setCell (p:=⟨b,_,none⟩) h1 h2 _).setCell (p:=⟨b,_,none⟩) h1 h2 _
theorem setAc_below {n:Nat} {w wr:World} {b o:Nat} {r:Ac} (h:Below n w wr) (h1:n≤b):Below n w (setAc wr b o r):=by
  unfold setAc;exact (((h.setCell (p:=⟨b,_,none⟩) h1 _).setCell (p:=⟨b,_,none⟩) h1 _).setCell (p:=⟨b,_,none⟩) h1 _).setCell (p:=⟨b,_,none⟩) h1 _
theorem setAc_size {w:World} {b o:Nat} {r:Ac}:(setAc w b o r).heap.size=w.heap.size:=by simp [setAc,World.setCell]
theorem rowAc_set {w:World} {b off n k:Nat} {R:Nat→Ac} {r:Ac} (hlt:k<n) (h:RowAc w b off n R):RowAc (setAc w b (off+k*4) r) b off n (fun i=>if i=k then r else R i):=by
  refine ⟨fun i hi=>?_,setAc_frozen h.2⟩
  by_cases e:i=k
  · subst e;simp only [if_true];exact setAc_same (h.1 i hi)
  · simp only [if_neg e];have g:∀j,j<4→(setAc w b (off+k*4) r).cell? ⟨b,off+i*4+j,none⟩=w.cell? ⟨b,off+i*4+j,none⟩:=fun j hj=>setAc_far (by omega);obtain ⟨h0,h1,h2,h3⟩:=h.1 i hi;exact ⟨(g 0 (by omega)).trans h0,(g 1 (by omega)).trans h1,(g 2 (by omega)).trans h2,(g 3 (by omega)).trans h3⟩
theorem rowAc_congr {w:World} {b off n:Nat} {R S:Nat→Ac} (h:RowAc w b off n R) (e:∀i,i<n→R i=S i):RowAc w b off n S:=⟨fun i hi=>by rw [←e i hi];exact h.1 i hi,h.2⟩
theorem rowAc_block {w w':World} {b off n:Nat} {R:Nat→Ac} (h:RowAc w b off n R) (hb:w'.heap[b]? = w.heap[b]?):RowAc w' b off n R:=
  ⟨fun i hi=>(h.1 i hi).block hb,fun i=>(World.frozen?_of_block (w:=w) (a:=⟨b,i,none⟩) hb).trans (h.2 i)⟩
theorem toAct_any (t a g v:Int) (w:World):Calls Tryz.prog 21 #[.agg #[.int .i64 t,.int .i64 a,.int .i64 g,.int .i64 v]] w fun e w'=>
    e=.returned (.agg #[.int .i64 t,.int .i64 a,.int .i64 g,.int .i64 v])∧Below w.heap.size w w':=by
  go_enter Tryz.func21,Tryz.ntmps21;go_wp2_with fail;refine bodyPost_ret (v:=.agg #[.int .i64 t,.int .i64 a,.int .i64 g,.int .i64 v]) (by simp [results,Tryz.results21,go_sem]) rfl ⟨rfl,?_⟩
  repeat (first | exact Below.refl _ _ | apply Below.drew | refine Below.setCell ?_ (by first | omega | (simp <;> omega)) _ | refine Below.alloc ?_ (by first | omega | (simp <;> omega)) _)
theorem infoAct:(Tryz.prog.info? 50).map (fun i=>(i.zero,i.size,i.bytes))=some (some (.agg #[.int .i64 0,.int .i64 0,.int .i64 0,.int .i64 0]),4,32):=by kernel_rfl
theorem run_make_acts (n:Nat) (hn:n≤1048576) (w:World) :
    (Instr.makeSlice 64 (.int .i64 (n:Int)) (.int .i64 (n:Int))).run Tryz.prog w=.ok (.slice (some ⟨w.heap.size,0,none⟩) n n) (w.alloc (.cells (madeCells #[.int .i64 0,.int .i64 0,.int .i64 0,.int .i64 0] (n*4)) 50)):=by
  obtain ⟨i,hi,hzz⟩:=Option.map_eq_some_iff.1 infoAct;simp only [Prod.mk.injEq] at hzz;obtain ⟨hz,hs,hb⟩:=hzz;have hr:=run_make (P:=Tryz.prog) w 64 50 i _ Tryz.underlying64 hi hz .i64 .i64 n n (by omega) (Int.le_refl _) (by rw [hb];omega) (by omega);simp only [Int.toNat_natCast,hs] at hr;exact hr
def zAc:Ac:=⟨0,0,0,0⟩
theorem made_acts (w:World) (n:Nat):RowAc (w.alloc (.cells (madeCells #[.int .i64 0,.int .i64 0,.int .i64 0,.int .i64 0] (n*4)) 50)) w.heap.size 0 n (fun _=>zAc):=by
  refine ⟨fun i hi=>?_,fun i=>by simp [go_sem]⟩
  have c:∀j,j<4→(w.alloc (.cells (madeCells #[.int .i64 0,.int .i64 0,.int .i64 0,.int .i64 0] (n*4)) 50)).cell? ⟨w.heap.size,0+i*4+j,none⟩=(#[Value.int .i64 0,.int .i64 0,.int .i64 0,.int .i64 0])[j]?:=fun j hj=>by
    have l:i*4+j<n*4:=(by omega);have:j=0∨j=1∨j=2∨j=3:=(by omega)
    rcases this with rfl | rfl | rfl | rfl <;> simp [go_sem,madeCells] <;> exact ⟨_,by rw [Array.getElem?_range,if_pos (by omega)],by simp [Nat.add_mod]⟩
  exact ⟨c 0 (by omega),c 1 (by omega),c 2 (by omega),c 3 (by omega)⟩
def toKA (R:Nat→Ac) (k i:Nat):Ac:=if i<k then R i else zAc
theorem toKA_step (R:Nat→Ac) (k i:Nat):(if i=k then R k else toKA R k i)=toKA R (k+1) i:=by
  unfold toKA
  by_cases e:i=k
  · subst e;simp
  · rw [if_neg e];have:(i<k+1)↔(i<k):=(by omega);simp only [this]
set_option maxHeartbeats 1000000 in
theorem toActS_some (n:Nat) (R:Nat→Ac) (b off cap:Nat) (w:World) (hn:n≤1048576) (hbl:b<w.heap.size) (hc:∀i,i<n→CAc w b (off+i*4) (R i)) :
    Calls Tryz.prog 30 #[.slice (some ⟨b,off,none⟩) n cap] w fun e w'=>
      e=.returned (.slice (some ⟨w.heap.size,0,none⟩) n n)∧Below w.heap.size w w'∧w.heap.size<w'.heap.size∧RowAc w' w.heap.size 0 n R:=by
  have HC:Hid (∀i,i<n→CAc w b (off+i*4) (R i)):=hc;have hmk:=run_make_acts n hn;clear hc;go_enter Tryz.func30,Tryz.ntmps30;go_wp2_with fail;clear hmk;go_loopw [4] (fun i wr=>∃k:Nat,k≤n∧i=.int .i64 k∧Hid (Below w.heap.size w wr)∧w.heap.size<wr.heap.size∧Hid (RowAc wr w.heap.size 0 n (toKA R k))) (fun i _=>n-(intOf i).toNat)
  case atStart=>exact ⟨0,Nat.zero_le _,rfl,(Below.refl _ _).alloc (Nat.le_refl _) _,by simp,rowAc_congr (made_acts w n) (fun i _=>by simp [toKA])⟩
  case round=>
    obtain ⟨k,hk0,rfl,HB,hsz,HR⟩:=hrel
    by_cases hlt:k<n
    · obtain ⟨x0,x1,x2,x3⟩:=(HC.out k hlt).block (HB.out.block _ hbl);obtain ⟨y0,y1,y2,y3⟩:=HR.out.1 k hlt;have hf:=HR.out.2;have hlt':(k:Int)<(n:Int):=(by omega);have hk1:(0:Int)≤(k:Int):=(by omega);generalize hr0:toKA R k k=r0 at *;go_wp2_with fail;refine (toAct_any _ _ _ _ wr).mono ?_;rintro e w1 ⟨rfl,hb1⟩;have HR1:Hid (RowAc w1 w.heap.size 0 n (toKA R k)):=rowAc_block HR.out (hb1.block _ hsz);have HB1:Hid (Below w.heap.size w w1):=below_then HB.out hb1;have hs1:w.heap.size<w1.heap.size:=Nat.lt_of_lt_of_le hsz hb1.size;replace y0:=cell_below y0 hb1;replace y1:=cell_below y1 hb1;replace y2:=cell_below y2 hb1;replace y3:=cell_below y3 hb1;replace hf:=HR1.out.2;rw [Nat.zero_add] at y0 y1 y2 y3;clear x0 x1 x2 x3 hb1;go_wp2_with fail;go_roundw
      case rel=>
        have HS:RowAc (setAc w1 w.heap.size (0+k*4) (R k)) w.heap.size 0 n (toKA R (k+1)):=rowAc_congr (rowAc_set hlt HR1.out) (fun i _=>toKA_step R k i);rw [Nat.zero_add] at HS;exact ⟨k+1,hlt,by go_num,setAc_below (r:=R k) (o:=k*4) HB1.out (Nat.le_refl _),by rw [show ((((w1.setCell ⟨w.heap.size,k*4,none⟩ (.int .i64 (R k).k)).setCell ⟨w.heap.size,k*4+1,none⟩ (.int .i64 (R k).t)).setCell ⟨w.heap.size,k*4+2,none⟩ (.int .i64 (R k).y)).setCell ⟨w.heap.size,k*4+3,none⟩ (.int .i64 (R k).o)).heap.size=w1.heap.size from setAc_size (r:=R k) (o:=k*4)];exact hs1,HS⟩
      case measure=>simp [intOf];omega
    · have hkn:k=n:=by omega
      have HR1:Hid (RowAc wr w.heap.size 0 n R):=rowAc_congr HR.out (fun i hi=>by simp [toKA,hkn,hi]);have hnl:¬((k:Int)<(n:Int)):=(by omega);go_wp2_with fail;go_ret;exact ⟨rfl,HB.out,hsz,HR1.out⟩
theorem toActS_zero (a:Option Addr) (cap:Nat) (w:World) :
    Calls Tryz.prog 30 #[.slice a 0 cap] w fun e w'=>e=.returned (.slice (some ⟨w.heap.size,0,none⟩) 0 0)∧Below w.heap.size w w'∧w.heap.size<w'.heap.size:=by
  have hmk:∀w,(Instr.makeSlice 64 (.int .i64 0) (.int .i64 0)).run Tryz.prog w=.ok (.slice (some ⟨w.heap.size,0,none⟩) 0 0) (w.alloc (.cells #[] 50)):=fun w=>by
    have h:=run_make_acts 0 (by omega) w;rw [made_none] at h;exact h
  go_enter Tryz.func30,Tryz.ntmps30;go_wp2;go_loop [4] (fun i=>i=.int .i64 0) (fun _=>0)
  case atStart=>exact rfl
  case round=>
    obtain rfl:=hrel;go_wp2;go_ret;exact ⟨rfl,(Below.refl _ _).alloc (Nat.le_refl _) _,by simp⟩
theorem toActS_any (n:Nat) (R:Nat→Ac) (a:Option Addr) (cap:Nat) (w:World) (hn:n≤1048576) (h:AcsAt w a n R) :
    Calls Tryz.prog 30 #[.slice a n cap] w fun e w'=>∃b,
      e=.returned (.slice (some ⟨b,0,none⟩) n n)∧Below w.heap.size w w'∧OwnAc w' w.heap.size w'.heap.size (some ⟨b,0,none⟩) n R:=by
  rcases h with rfl | ⟨b,off,rfl,hbl,hc⟩
  · refine (toActS_zero a cap w).mono ?_;rintro e w' ⟨rfl,hb,_⟩;exact ⟨_,rfl,hb,Nat.le_refl _,.inl rfl⟩
  · refine (toActS_some n R b off cap w hn hbl hc).mono ?_;rintro e w' ⟨rfl,hb,hs,hr⟩;exact ⟨_,rfl,hb,Nat.le_refl _,.inr ⟨_,0,rfl,Nat.le_refl _,hs,hr⟩⟩
theorem eqAct_same (t a g v:Int) (w:World) :
    Calls Tryz.prog 91 #[.agg #[.int .i64 t,.int .i64 a,.int .i64 g,.int .i64 v],.agg #[.int .i64 t,.int .i64 a,.int .i64 g,.int .i64 v]] w fun e w'=>e=.returned (.bool true)∧Below w.heap.size w w':=by
  have hb0:∀o1 o2,Below w.heap.size w ((w.alloc o1).alloc o2):=fun o1 o2=>((Below.refl _ _).alloc (Nat.le_refl _) _).alloc (by simp) _;go_enter Tryz.func91,Tryz.ntmps91;go_wp2_with fail;go_ret;exact ⟨rfl,hb0 _ _⟩
theorem eqActS_zero (a a':Option Addr) (cap cap':Nat) (w:World):Calls Tryz.prog 34 #[.slice a 0 cap,.slice a' 0 cap'] w fun e w'=>e=.returned (.bool true)∧Below w.heap.size w w':=by
  go_enter Tryz.func34,Tryz.ntmps34;go_wp2_with fail;go_loop [5] (fun i=>i=.int .i64 0) (fun _=>0)
  case atStart=>exact rfl
  case round=>
    obtain rfl:=hrel;go_wp2_with fail;go_ret;exact ⟨rfl,Below.refl _ _⟩
theorem drewB8 {w1 w2:World} (hb:Below w1.drew.heap.size w1.drew w2):Below w1.heap.size w1 w2:=((Below.refl _ _).drew).trans hb
set_option maxHeartbeats 2000000 in
theorem eqActS_some (n:Nat) (R:Nat→Ac) (b off cap b' off' cap':Nat) (w:World) (hn:n≤1048576) (hbl:b<w.heap.size) (hbl':b'<w.heap.size) (hc:∀i,i<n→CAc w b (off+i*4) (R i)) (hc':∀i,i<n→CAc w b' (off'+i*4) (R i)) :
    Calls Tryz.prog 34 #[.slice (some ⟨b,off,none⟩) n cap,.slice (some ⟨b',off',none⟩) n cap'] w fun e w'=>e=.returned (.bool true)∧Below w.heap.size w w':=by
  have HC:Hid (∀i,i<n→CAc w b (off+i*4) (R i)):=hc;have HC':Hid (∀i,i<n→CAc w b' (off'+i*4) (R i)):=hc';have hne:((n:Int) != (n:Int))=false:=(by simp);clear hc hc';go_enter Tryz.func34,Tryz.ntmps34;go_wp2_with fail;go_loopw [5] (fun i wr=>∃k:Nat,k≤n∧i=.int .i64 k∧Hid (Below w.heap.size w wr)) (fun i _=>n-(intOf i).toNat)
  case atStart=>exact ⟨0,Nat.zero_le _,rfl,Below.refl _ _⟩
  case round=>
    obtain ⟨k,hk,rfl,HB⟩:=hrel
    by_cases hlt:k<n
    · have hlt':(k:Int)<(n:Int):=by omega
      have hk0:(0:Int)≤(k:Int):=(by omega);obtain ⟨x0,x1,x2,x3⟩:=(HC.out k hlt).block (HB.out.block _ hbl);obtain ⟨y0,y1,y2,y3⟩:=(HC'.out k hlt).block (HB.out.block _ hbl');generalize R k=r at *;go_wp2_with fail;go_region_law (first | (go_simp;go_at_call 91;refine (eqAct_same r.k r.t r.y r.o _).mono ?_;rintro e w1 ⟨rfl,hb1⟩;have HB1:Hid (Below w.heap.size w w1):=below_then HB.out (drewB8 hb1)))
      all_goals
        go_wp2_with fail;go_roundw
        case rel=>exact ⟨k+1,hlt,by go_num,HB1⟩
        case measure=>simp [intOf];omega
    · have hnl:¬((k:Int)<(n:Int)):=by omega
      go_wp2_with fail;go_ret;exact ⟨rfl,HB.out⟩
theorem eqActS_any (n:Nat) (R:Nat→Ac) (a a':Option Addr) (cap cap':Nat) (w:World) (hn:n≤1048576) (h:AcsAt w a n R) (h':AcsAt w a' n R) :
    Calls Tryz.prog 34 #[.slice a n cap,.slice a' n cap'] w fun e w'=>e=.returned (.bool true)∧Below w.heap.size w w':=by
  rcases h with rfl | ⟨b,off,rfl,hl,hc⟩
  · exact eqActS_zero a a' cap cap' w
  · rcases h' with rfl | ⟨b',off',rfl,hl',hc'⟩
    · exact eqActS_zero _ a' cap cap' w
    · exact eqActS_some n R b off cap b' off' cap' w hn hl hl' hc hc'
def mAc (m:Int) (i:Nat):Ac:=⟨m+i*4,m+i*4+1,m+i*4+2,m+i*4+3⟩
def mkAc (m:Int) (R:Nat→Ac) (j i:Nat):Ac:=if i<j then mAc m i else R i
theorem mkAc_step (m:Int) (R:Nat→Ac) (k i:Nat):(if i=k then mAc m k else mkAc m R k i)=mkAc m R (k+1) i:=by
  unfold mkAc
  by_cases e:i=k
  · subst e;simp
  · rw [if_neg e];have:(i<k+1)↔(i<k):=(by omega);simp only [this]
set_option maxHeartbeats 4000000 in
theorem markActS_some (n:Nat) (R:Nat→Ac) (b off cap lo hi:Nat) (m:Int) (w:World) (hn:n≤1048576) (hm1:0≤m) (hm2:m≤8796093022208) (hlo:lo≤b) (hhi:b<hi) (hr:RowAc w b off n R) :
    Calls Tryz.prog 36 #[.slice (some ⟨b,off,none⟩) n cap,.int .i64 m] w fun e w'=>
      e=.returned (.int .i64 (m+n*4))∧Writes lo hi w w'∧RowAc w' b off n (mkAc m R n):=by
  have HR0:Hid (RowAc w b off n (mkAc m R 0)):=⟨fun i h=>by have:=hr.1 i h;simpa [mkAc] using this,hr.2⟩;clear hr;go_enter Tryz.func36,Tryz.ntmps36;go_wp2_with fail;go_loopw [1,5] (fun q i wr=>∃k:Nat,k≤n∧i=.int .i64 k∧q=.int .i64 (m+k*4)∧Hid (Writes lo hi w wr)∧Hid (RowAc wr b off n (mkAc m R k))) (fun _ i _=>n-(intOf i).toNat)
  case atStart=>exact ⟨0,Nat.zero_le _,rfl,by go_num,Writes.refl _ _ _,HR0⟩
  case round=>
    obtain ⟨k,hk0,rfl,rfl,HB,HR⟩:=hrel
    by_cases hlt:k<n
    · obtain ⟨h0,h1,h2,h3⟩:=HR.out.1 k hlt;have hf:=HR.out.2;generalize mkAc m R k k=r at *;have hk':(k:Int)<(n:Int):=(by omega);have hk1:(0:Int)≤(k:Int):=(by omega);have g1:IntKind.i64.wrap (m+k*4+1)=m+k*4+1:=(by rw [IntKind.wrap_i64];omega);have g2:IntKind.i64.wrap (m+k*4+1+1)=m+k*4+2:=(by rw [IntKind.wrap_i64];omega);have g3:IntKind.i64.wrap (m+k*4+2+1)=m+k*4+3:=(by rw [IntKind.wrap_i64];omega);have g4:IntKind.i64.wrap (m+k*4+3+1)=m+k*4+4:=(by rw [IntKind.wrap_i64];omega);go_wp2_with fail;go_roundw
      case rel=>exact ⟨k+1,hlt,by go_num,by go_num,setAc_writes (r:=mAc m k) (o:=off+k*4) HB.out hlo hhi,rowAc_congr (rowAc_set (r:=mAc m k) hlt HR.out) (fun i _=>mkAc_step m R k i)⟩
      case measure=>simp [intOf];omega
    · have hkn:k=n:=by omega
      have HR1:Hid (RowAc wr b off n (mkAc m R n)):=(by have h:=HR.out;rw [hkn] at h;exact h);have hnl:¬((k:Int)<(n:Int)):=(by omega);go_wp2_with fail;go_ret;exact ⟨rfl,HB.out,HR1.out⟩
theorem markActS_zero (a:Option Addr) (cap:Nat) (m:Int) (w:World):Calls Tryz.prog 36 #[.slice a 0 cap,.int .i64 m] w fun e w'=>e=.returned (.int .i64 m)∧w'=w:=by
  go_enter Tryz.func36,Tryz.ntmps36;go_wp2;go_loop [1,5] (fun q i=>q=.int .i64 m∧i=.int .i64 0) (fun _ _=>0)
  case atStart=>exact ⟨rfl,rfl⟩
  case round=>
    obtain ⟨rfl,rfl⟩:=hrel;go_wp2;go_ret;exact ⟨rfl,rfl⟩
theorem markActS_any (n:Nat) (R:Nat→Ac) (a:Option Addr) (cap lo hi:Nat) (m:Int) (w:World) (hn:n≤1048576) (hm1:0≤m) (hm2:m≤8796093022208) (h:OwnAc w lo hi a n R) :
    Calls Tryz.prog 36 #[.slice a n cap,.int .i64 m] w fun e w'=>e=.returned (.int .i64 (m+n*4))∧Writes lo hi w w'∧OwnAc w' lo hi a n (mAc m):=by
  obtain ⟨h0,rfl | ⟨b,off,rfl,hlo,hhi,hr⟩⟩:=h
  · refine (markActS_zero a cap m w).mono ?_;rintro e w' ⟨rfl,rfl⟩;exact ⟨ret_int (by omega),Writes.refl _ _ _,h0,.inl rfl⟩
  · refine (markActS_some n R b off cap lo hi m w hn hm1 hm2 hlo hhi hr).mono ?_;rintro e w' ⟨rfl,hw,h1,h2⟩;exact ⟨rfl,hw,Nat.le_trans h0 hw.size,.inr ⟨b,off,rfl,hlo,hhi,fun i hi=>by have:=h1 i hi;simpa [mkAc,hi] using this,h2⟩⟩
theorem cellsAct:Tryz.prog.cellsOf 43=4:=by kernel_rfl
theorem cellsIA:Tryz.prog.cellsOf 2=1:=by kernel_rfl
theorem openActs {H:Type} {enc:TypeId × Value→H} {W:World} {fuel:Nat} {cs:List Value} {x:DataW H × List MemPlace}
    (h:DataW.trod enc Tryz.prog W 0 (fun _=>true) true fuel 56 cs=some x) :
    ∃(a:Option Addr) (n cap:Nat) (R:Nat→Ac),cs=[.slice a n cap]∧n≤cap∧n≤9223372036854775807∧AcsAt W a n R:=by
  rcases open_slice Tryz.underlying56 h with ⟨rfl,_⟩ | ⟨a,l,c,m,nn,D,Pl,rfl,_,hl,hm,hmm,_,hx⟩
  · exact ⟨none,0,0,fun _=>zAc,rfl,Nat.le_refl _,by omega,.inl rfl⟩
  · have hmc:m=c:=by simpa using hmm
    unfold maxLen at hm;rw [cellsAct] at hx
    have each:∀i,i<l→∃q:(Int × Int) × (Int × Int),W.cell? (a.add (i*4))=some (.int .i64 q.1.1)∧W.cell? (a.add (i*4+1))=some (.int .i64 q.1.2)∧W.cell? (a.add (i*4+2))=some (.int .i64 q.2.1)∧W.cell? (a.add (i*4+3))=some (.int .i64 q.2.2):=fun i hi=>by
      obtain ⟨cs',h1,h2⟩:=hx i (by omega);obtain ⟨_,hlen,hcell⟩:=World.cells?_some h1;obtain ⟨xs,k,hk,hxy,_,hxl,hf⟩:=DataW.trod_struct Tryz.underlying43 h2
      match xs,hxl,cs',hlen with
      | [y0,y1,y2,y3],_,[v0,v1,v2,v3],_=>
        have g0:=hf 0 _ rfl;have g1:=hf 1 _ rfl;have g2:=hf 2 _ rfl;have g3:=hf 3 _ rfl;simp [cellsIA] at g0 g1 g2 g3;have e0:=hcell 0 (by omega);have e1:=hcell 1 (by omega);have e2:=hcell 2 (by omega);have e3:=hcell 3 (by omega);rw [add_add] at e0 e1 e2 e3;obtain ⟨z0,f0,_,_⟩:=DataW.trod_int Tryz.underlying2 g0;obtain ⟨z1,f1,_,_⟩:=DataW.trod_int Tryz.underlying2 g1;obtain ⟨z2,f2,_,_⟩:=DataW.trod_int Tryz.underlying2 g2;obtain ⟨z3,f3,_,_⟩:=DataW.trod_int Tryz.underlying2 g3;simp at f0 f1 f2 f3;subst f0 f1 f2 f3;exact ⟨((z0,z1),(z2,z3)),by simpa using e0,by simpa using e1,by simpa using e2,by simpa using e3⟩
    obtain ⟨q,hq⟩:=choose_lt each;refine ⟨some a,l,c,fun i=>⟨(q i).1.1,(q i).1.2,(q i).2.1,(q i).2.2⟩,rfl,by omega,by omega,?_⟩
    by_cases hz0:l=0
    · exact .inl hz0
    · obtain ⟨b,off,spot⟩:=a;have hc0:=(hq 0 (by omega)).1;have hspot:spot=none:=(by simpa [Addr.add] using World.cell?_spot hc0);subst hspot;refine .inr ⟨b,off,rfl,Go.block_lt_of_cell hc0,fun i hi=>?_⟩;obtain ⟨k0,k1,k2,k3⟩:=hq i hi;rw [add_plain] at k0 k1 k2 k3;exact ⟨k0,by rw [Nat.add_assoc];exact k1,by rw [Nat.add_assoc];exact k2,by rw [Nat.add_assoc];exact k3⟩
end Go.Proofs.YtjdodbiphijjgaaGreat
