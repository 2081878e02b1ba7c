import Derived.Test.YtjdodbiphijjgaaGreatJVf
import Derived.Test.YtjdodbiphijjgaaGreatJVc
import Derived.Test.YtjdodbiphijjgaaGreatJBox
import Derived.BigQuiet
namespace Go.Proofs.YtjdodbiphijjgaaGreat
open Go.RowKit Go.Deep
set_option linter.unusedVariables false
set_option maxRecDepth 20000
theorem VersAt.first {w:World} {a:Option Addr} {n:Nat} {R:Nat→Vr} (h:VersAt w a n R) (hp:0<n):∃b off,a=some ⟨b,off,none⟩∧b<w.heap.size∧C4 w b off (R 0):=by
  rcases h with h | ⟨b,off,ha,hl,hc⟩
  · omega
  · have:=hc 0 hp;rw [Nat.zero_mul,Nat.add_zero] at this;exact ⟨b,off,ha,hl,this⟩
theorem chf_good {R:Nat→Vr}:∀{m i:Nat},chf R m i=0→∀j,i≤j→j<i+m→vR (R j)=true∧vF R j=false
  | 0,i,_,j,h1,h2=>by omega
  | m+1,i,h,j,h1,h2=>by
    rw [chf] at h;split at h
    · omega
    · rename_i hr;split at h
      · omega
      · rename_i hf
        by_cases e:j=i
        · subst e;exact ⟨by simpa using hr,by simpa using hf⟩
        · exact chf_good h j (by omega) (by omega)
theorem chF_good {n:Nat} {R:Nat→Vr} (h:chF n R=0):n≤12∧∀j,j<n→vR (R j)=true∧vF R j=false:=by
  unfold chF at h;split at h
  · omega
  · exact ⟨by omega,fun j hj=>chf_good h j (by omega) (by omega)⟩
def wrt (n:Nat) (R:Nat→Vr):Int:=if 0<n∧(R 0).a=0 then (R 0).t else 0
def fop (n:Nat) (R:Nat→Vr):Bool:=decide (0<n) && (R 0).a == 0
theorem firstIsOpen_any (n:Nat) (R:Nat→Vr) (a:Option Addr) (cap:Nat) (w:World) (h:VersAt w a n R) :
    Calls Tryz.prog 217 #[.slice a n cap] w fun e w'=>e=.returned (.bool (fop n R))∧Below w.heap.size w w':=by
  rcases Nat.eq_zero_or_pos n with rfl | hp
  · go_enter Tryz.func217,Tryz.ntmps217;go_wp2_with fail;go_ret;exact ⟨rfl,Below.refl _ _⟩
  · obtain ⟨b,off,rfl,hl,x0,x1,x2,x3⟩:=h.first hp
    have hp':(0:Int)<(n:Int):=(by omega)
    have HV:Hid (fop n R=((R 0).a == 0)):=by
      show fop n R=((R 0).a == 0);simp [fop,hp]
    clear h;generalize hr:R 0=r at *;clear hr
    by_cases hz:r.a=0
    · have hz1:(r.a != 0)=false:=by simp [hz]
      have HV2:Hid (fop n R=true):=HV.out.trans (by simp [hz]);clear HV hz;go_enter Tryz.func217,Tryz.ntmps217;go_wp2_with fail;refine (isCommitted_any _ _ _ _ _).mono ?_;rintro e w1 ⟨rfl,hb1⟩;rw [hz1];go_wp2_with fail;go_ret;exact ⟨ret_bool HV2.out.symm,hb1⟩
    · have hz1:(r.a != 0)=true:=by simp [hz]
      have HV2:Hid (fop n R=false):=HV.out.trans (by simp [hz]);clear HV hz;go_enter Tryz.func217,Tryz.ntmps217;go_wp2_with fail;refine (isCommitted_any _ _ _ _ _).mono ?_;rintro e w1 ⟨rfl,hb1⟩;rw [hz1];go_wp2_with fail;go_ret;exact ⟨ret_bool HV2.out.symm,hb1⟩
def fob (n:Nat) (R:Nat→Vr) (x:Int):Bool:=decide (0<n) && ((R 0).t == x && (R 0).a == 0)
theorem firstIsOpenBy_any (n:Nat) (R:Nat→Vr) (a:Option Addr) (cap:Nat) (x:Int) (w:World) (h:VersAt w a n R) :
    Calls Tryz.prog 167 #[.slice a n cap,.int .i64 x] w fun e w'=>e=.returned (.bool (fob n R x))∧Below w.heap.size w w':=by
  rcases Nat.eq_zero_or_pos n with rfl | hp
  · go_enter Tryz.func167,Tryz.ntmps167;go_wp2_with fail;go_ret;exact ⟨rfl,Below.refl _ _⟩
  · obtain ⟨b,off,rfl,hl,x0,x1,x2,x3⟩:=h.first hp
    have hp':(0:Int)<(n:Int):=(by omega)
    have HV:Hid (fob n R x=((R 0).t == x && (R 0).a == 0)):=by
      show fob n R x=((R 0).t == x && (R 0).a == 0);simp [fob,hp]
    clear h;generalize hr:R 0=r at *;clear hr;go_enter Tryz.func167,Tryz.ntmps167;go_wp2_with fail;refine (openBy_any _ _ _ _ _ _).mono ?_;rintro e w1 ⟨rfl,hb1⟩;rw [←HV.out];go_wp2_with fail;go_ret;exact ⟨rfl,hb1⟩
theorem l5Writer_any (n:Nat) (R:Nat→Vr) (a:Option Addr) (cap:Nat) (w:World) (h:VersAt w a n R) :
    Calls Tryz.prog 113 #[.slice a n cap] w fun e w'=>e=.returned (.int .i64 (wrt n R))∧w'=w:=by
  rcases Nat.eq_zero_or_pos n with rfl | hp
  · go_enter Tryz.func113,Tryz.ntmps113;go_wp2_with fail;go_ret;exact ⟨rfl,rfl⟩
  · obtain ⟨b,off,rfl,hl,x0,x1,x2,x3⟩:=h.first hp
    have hp':(0:Int)<(n:Int):=(by omega)
    by_cases hz:(R 0).a=0
    · have HV:Hid (wrt n R=(R 0).t):=if_pos ⟨hp,hz⟩;rw [hz] at x1;clear h;generalize hr:(R 0).t=t at *;generalize hr2:(R 0).g=g at *;generalize hr3:(R 0).v=v at *;clear hr hz hr2 hr3;go_enter Tryz.func113,Tryz.ntmps113;go_wp2_with fail;go_ret;exact ⟨ret_int HV.out.symm,rfl⟩
    · have HV:Hid (wrt n R=0):=if_neg (fun h=>hz h.2);have hz1:((R 0).a == 0)=false:=(by simp [hz]);clear h;generalize hr:R 0=r at *;clear hr;go_enter Tryz.func113,Tryz.ntmps113;go_wp2_with fail;go_ret;exact ⟨ret_int HV.out.symm,rfl⟩
def ffz (f:Nat→Int):Nat→Nat→Int
  | 0,_=>0
  | m+1,i=>if f i=0 then ffz f m (i+1) else f i
theorem ffz_at (f:Nat→Int) {n k:Nat} (h:k<n):ffz f (n-k) k=if f k=0 then ffz f (n-(k+1)) (k+1) else f k:=by
  obtain ⟨m,hm⟩:∃m,n-k=m+1:=⟨n-k-1,by omega⟩;rw [hm,ffz,show n-(k+1)=m by omega]
theorem ffz_all (f:Nat→Int):∀m i,ffz f m i=0→∀j,i≤j→j<i+m→f j=0
  | 0,i,_,j,h1,h2=>by omega
  | m+1,i,h,j,h1,h2=>by
    simp only [ffz] at h;split at h
    · rename_i h0
      by_cases e:j=i
      · rw [e];exact h0
      · exact ffz_all f m (i+1) h j (by omega) (by omega)
    · rename_i h0;exact absurd h h0
theorem ffz_zero {f:Nat→Int} {n:Nat} (h:ffz f n 0=0):∀i,i<n→f i=0:=fun i hi=>ffz_all f n 0 h i (Nat.zero_le _) (by omega)
theorem ffz_congr {f g:Nat→Int}:∀m i,(∀j,i≤j→j<i+m→f j=g j)→ffz f m i=ffz g m i
  | 0,i,_=>rfl
  | m+1,i,h=>by
    simp only [ffz];rw [h i (Nat.le_refl _) (by omega),ffz_congr m (i+1) fun j h1 h2=>h j (by omega) (by omega)]
def fi (f:Nat→Bool):Nat→Nat→Int
  | 0,_=>-1
  | m+1,i=>if f i=true then i else fi f m (i+1)
theorem fi_at (f:Nat→Bool) {n k:Nat} (h:k<n):fi f (n-k) k=if f k=true then (k:Int) else fi f (n-(k+1)) (k+1):=by
  obtain ⟨m,hm⟩:∃m,n-k=m+1:=⟨n-k-1,by omega⟩;rw [hm,fi,show n-(k+1)=m by omega]
theorem fi_gen (f:Nat→Bool):∀m i,(fi f m i=-1∧∀j,i≤j→j<i+m→f j=false)∨∃j,i≤j∧j<i+m∧fi f m i=j∧f j=true∧∀q,i≤q→q<j→f q=false
  | 0,i=>.inl ⟨rfl,fun j h1 h2=>by omega⟩
  | m+1,i=>by
    simp only [fi]
    by_cases h:f i=true
    · rw [if_pos h];exact .inr ⟨i,Nat.le_refl _,by omega,rfl,h,fun q h1 h2=>by omega⟩
    · rw [if_neg h];have hf:f i=false:=(by simpa using h)
      rcases fi_gen f m (i+1) with ⟨h1,h2⟩ | ⟨j,h1,h2,h3,h4,h5⟩
      · refine .inl ⟨h1,fun j k1 k2=>?_⟩
        by_cases e:j=i
        · rw [e];exact hf
        · exact h2 j (by omega) (by omega)
      · refine .inr ⟨j,by omega,by omega,h3,h4,fun q k1 k2=>?_⟩
        by_cases e:q=i
        · rw [e];exact hf
        · exact h5 q (by omega) k2
theorem fi_cases (f:Nat→Bool) (n:Nat):(fi f n 0=-1∧∀j,j<n→f j=false)∨∃j,j<n∧fi f n 0=(j:Int)∧f j=true∧∀q,q<j→f q=false:=by
  rcases fi_gen f n 0 with ⟨h1,h2⟩ | ⟨j,h1,h2,h3,h4,h5⟩
  · exact .inl ⟨h1,fun j hj=>h2 j (Nat.zero_le _) (by omega)⟩
  · exact .inr ⟨j,by omega,h3,h4,fun q hq=>h5 q (Nat.zero_le _) hq⟩
def allb (f:Nat→Bool):Nat→Bool
  | 0=>true
  | n+1=>allb f n && f n
theorem allb_iff (f:Nat→Bool):∀n,allb f n=true↔∀i,i<n→f i=true
  | 0=>⟨fun _ i h=>by omega,fun _=>rfl⟩
  | n+1=>by
    simp only [allb,Bool.and_eq_true,allb_iff f n];exact ⟨fun ⟨h1,h2⟩ i hi=>if e:i=n then by rw [e];exact h2 else h1 i (by omega),fun h=>⟨fun i hi=>h i (by omega),h n (by omega)⟩⟩
theorem allb_not {f:Nat→Bool} {n i:Nat} (hi:i<n) (h:f i=false):allb f n=false:=by
  cases e:allb f n with
  | false=>rfl
  | true=>rw [(allb_iff f n).1 e i hi] at h;cases h
def hasU (U:Nat→Ud) (key:Int):Nat→Bool
  | 0=>false
  | m+1=>hasU U key m || (U m).k == key
theorem hasU_iff (U:Nat→Ud) (key:Int):∀n,hasU U key n=true↔∃i,i<n∧(U i).k=key
  | 0=>⟨fun h=>by simp [hasU] at h,fun ⟨i,h,_⟩=>by omega⟩
  | n+1=>by
    simp only [hasU,Bool.or_eq_true,hasU_iff U key n,beq_iff_eq];constructor
    · rintro (⟨i,h1,h2⟩ | h)
      · exact ⟨i,by omega,h2⟩
      · exact ⟨n,by omega,h⟩
    · rintro ⟨i,h1,h2⟩
      by_cases e:i=n
      · subst e;exact .inr h2
      · exact .inl ⟨i,by omega,h2⟩
theorem hasU_true {U:Nat→Ud} {key:Int} {n i:Nat} (hi:i<n) (h:(U i).k=key):hasU U key n=true:=(hasU_iff U key n).2 ⟨i,hi,h⟩
def uB (u:Ud):Bool:=(!u.h && (u.g || u.v != 0)) || (u.g && u.v != 0)
def uF (u:Ud):Int:=if inB u.k 0 31=false∨inB u.v 0 9999=false then 3 else if uB u=true then 1 else 0
def usF (n:Nat) (U:Nat→Ud):Int:=if 60<n then 2 else ffz (fun j=>uF (U j)) n 0
def tIn (nx ck:Int) (t:Tx):Bool:=inB t.id 1 (nx-1) && inB t.am 0 ck && inB t.st 1 3 && inB t.dn 0 ck
def tB1 (T:Nat→Tx) (i:Nat):Bool:=decide (0<i) && decide ((T i).id≤(T (i-1)).id)
def tB2 (t:Tx):Bool:=t.dn != 0 && (t.st != 2 || decide (t.dn≤t.am))
def tB3 (t:Tx):Bool:=decide (0<t.n) && t.st != 1
def tF (nx ck:Int) (T:Nat→Tx) (i:Nat):Int:=if tIn nx ck (T i)=false then 3 else if (tB1 T i || tB2 (T i) || tB3 (T i))=true then 1 else usF (T i).n (T i).U
def fT (p:Nat) (T:Nat→Tx) (id:Int):Int:=fi (fun i=>(T i).id == id) p 0
def fR (q:Nat) (R:Nat→Rw) (key:Int):Int:=fi (fun i=>(R i).key == key) q 0
def opB (p:Nat) (T:Nat→Tx) (r:Rw):Bool:=wrt r.n r.U == 0 || (decide (0≤fT p T (wrt r.n r.U)) && (T (fT p T (wrt r.n r.U)).toNat).st == 1 && hasU (T (fT p T (wrt r.n r.U)).toNat).U r.key (T (fT p T (wrt r.n r.U)).toNat).n)
def rB1 (R:Nat→Rw) (i:Nat):Bool:=(decide (0<i) && decide ((R i).key≤(R (i-1)).key)) || (R i).n == 0
def rB2 (ck:Int) (r:Rw):Bool:=decide (ck<(r.U 0).a) || (decide (1<r.n) && decide (ck<(r.U 1).a))
def rF (ck:Int) (p:Nat) (T:Nat→Tx) (R:Nat→Rw) (i:Nat):Int:=
  if inB (R i).key 0 31=false then 3 else if rB1 R i=true then 1 else if chF (R i).n (R i).U=0 then (if (rB2 ck (R i) || !opB p T (R i))=true then 1 else 0) else chF (R i).n (R i).U
def oB (q:Nat) (R:Nat→Rw) (t:Tx) (j:Nat):Bool:=
  decide (0≤fR q R (t.U j).k) && wrt (R (fR q R (t.U j).k).toNat).n (R (fR q R (t.U j).k).toNat).U == t.id && (t.U j).h == hasU t.U (t.U j).k j
def owB (q:Nat) (R:Nat→Rw) (t:Tx):Bool:=allb (oB q R t) t.n
def eF (E:En):Int:=
  if inB E.nx 1 999=false∨inB E.ck 0 1000000=false then 3 else if 20<E.p∨32<E.q then 2 else
    if ffz (tF E.nx E.ck E.T) E.p 0=0 then (if ffz (rF E.ck E.p E.T E.R) E.q 0=0 then (if allb (fun i=>owB E.q E.R (E.T i)) E.p=true then 0 else 1) else ffz (rF E.ck E.p E.T E.R) E.q 0) else ffz (tF E.nx E.ck E.T) E.p 0
theorem l6Wrote_any (n:Nat) (U:Nat→Ud) (b o:Nat) (ai:Option Addr) (ci:Nat) (key:Int) (w:World) (hn:n≤1048576) (hc:w.cell? ⟨b,o+4,none⟩=some (.slice ai n ci)) (h:UndsAt w ai n U) :
    Calls Tryz.prog 223 #[.pointer (some ⟨b,o,none⟩),.int .i64 key] w fun e w'=>e=.returned (.bool (hasU U key n))∧w'=w:=by
  have HA:Hid (UndsAt w ai n U):=h;clear h;go_enter Tryz.func223,Tryz.ntmps223;go_wp2_with fail;go_loop [5] (fun i=>∃k:Nat,k≤n∧i=.int .i64 k∧Hid (hasU U key k=false)) (fun i=>n-(intOf i).toNat)
  case atStart=>exact ⟨0,Nat.zero_le _,rfl,rfl⟩
  case round=>
    obtain ⟨k,hk,rfl,HC⟩:=hrel
    by_cases hlt:k<n
    · have hlt':(k:Int)<(n:Int):=by omega
      have hk0:(0:Int)≤(k:Int):=(by omega)
      rcases HA.out with h | ⟨bb,off,rfl,hl,hcc⟩
      · omega
      obtain ⟨x0,-⟩:=hcc k hlt;clear hcc
      obtain hq | hq:((U k).k == key)=true∨((U k).k == key)=false:=(by cases ((U k).k == key) <;> simp)
      · have HE:Hid (hasU U key n=true):=hasU_true hlt (by simpa using hq);generalize (U k).k=uk at *;go_wp2_with fail;go_ret;exact ⟨ret_bool HE.out.symm,rfl⟩
      · have HE:Hid (hasU U key (k+1)=false):=by simp only [hasU,HC.out,hq,Bool.or_self,Hid]
        generalize (U k).k=uk at *;go_wp2_with fail;go_round
        case rel=>exact ⟨k+1,hlt,by go_num,HE⟩
        case measure=>simp [intOf];omega
    · have hkn:k=n:=by omega
      have HE:Hid (hasU U key n=false):=(by rw [hkn] at HC;exact HC);have hnl:¬((k:Int)<(n:Int)):=(by omega);go_wp2_with fail;go_ret;exact ⟨ret_bool HE.out.symm,rfl⟩
theorem l6Txn_any (n:Nat) (T:Nat→Tx) (B:Nat) (a:Option Addr) (cap:Nat) (id:Int) (w:World) (hn:n≤1048576) (hc:w.cell? ⟨B,2,none⟩=some (.slice a n cap)) (h:TxsAt w a n T) :
    Calls Tryz.prog 110 #[.pointer (some ⟨B,0,none⟩),.int .i64 id] w fun e w'=>e=.returned (.int .i64 (fT n T id))∧w'=w:=by
  have HA:Hid (TxsAt w a n T):=h;clear h;go_enter Tryz.func110,Tryz.ntmps110;go_wp2_with fail;go_loop [5] (fun i=>∃k:Nat,k≤n∧i=.int .i64 k∧Hid (fT n T id=fi (fun i=>(T i).id == id) (n-k) k)) (fun i=>n-(intOf i).toNat)
  case atStart=>exact ⟨0,Nat.zero_le _,rfl,rfl⟩
  case round=>
    obtain ⟨k,hk,rfl,HC⟩:=hrel
    by_cases hlt:k<n
    · have hlt':(k:Int)<(n:Int):=by omega
      have hk0:(0:Int)≤(k:Int):=(by omega)
      rcases HA.out with h | ⟨bb,off,rfl,hl,hcc⟩
      · omega
      obtain ⟨ai,ci,⟨x0,-⟩,-⟩:=hcc k hlt;have HE0:=HC.out.trans (fi_at _ hlt);clear hcc HC
      obtain hq | hq:((T k).id == id)=true∨((T k).id == id)=false:=(by cases ((T k).id == id) <;> simp)
      · have HE:Hid (fT n T id=k):=by rw [if_pos hq] at HE0;exact HE0
        clear HE0;generalize (T k).id=uk at *;go_wp2_with fail;go_ret;exact ⟨ret_int HE.out.symm,rfl⟩
      · have HE:Hid (fT n T id=fi (fun i=>(T i).id == id) (n-(k+1)) (k+1)):=by rw [if_neg (by simpa using hq)] at HE0;exact HE0
        clear HE0;generalize (T k).id=uk at *;go_wp2_with fail;go_round
        case rel=>exact ⟨k+1,hlt,by go_num,HE⟩
        case measure=>simp [intOf];omega
    · have HE:Hid (fT n T id=-1):=by
        have h:=HC.out;rw [show n-k=0 by omega] at h;exact h
      clear HC;have hnl:¬((k:Int)<(n:Int)):=(by omega);go_wp2_with fail;go_ret;exact ⟨ret_int HE.out.symm,rfl⟩
theorem l6Row_any (n:Nat) (R:Nat→Rw) (B:Nat) (a:Option Addr) (cap:Nat) (key:Int) (w:World) (hn:n≤1048576) (hc:w.cell? ⟨B,3,none⟩=some (.slice a n cap)) (h:RwsAt w a n R) :
    Calls Tryz.prog 111 #[.pointer (some ⟨B,0,none⟩),.int .i64 key] w fun e w'=>e=.returned (.int .i64 (fR n R key))∧w'=w:=by
  have HA:Hid (RwsAt w a n R):=h;clear h;go_enter Tryz.func111,Tryz.ntmps111;go_wp2_with fail;go_loop [5] (fun i=>∃k:Nat,k≤n∧i=.int .i64 k∧Hid (fR n R key=fi (fun i=>(R i).key == key) (n-k) k)) (fun i=>n-(intOf i).toNat)
  case atStart=>exact ⟨0,Nat.zero_le _,rfl,rfl⟩
  case round=>
    obtain ⟨k,hk,rfl,HC⟩:=hrel
    by_cases hlt:k<n
    · have hlt':(k:Int)<(n:Int):=by omega
      have hk0:(0:Int)≤(k:Int):=(by omega)
      rcases HA.out with h | ⟨bb,off,rfl,hl,hcc⟩
      · omega
      obtain ⟨ai,ci,⟨x0,-⟩,-⟩:=hcc k hlt;have HE0:=HC.out.trans (fi_at _ hlt);clear hcc HC
      obtain hq | hq:((R k).key == key)=true∨((R k).key == key)=false:=(by cases ((R k).key == key) <;> simp)
      · have HE:Hid (fR n R key=k):=by rw [if_pos hq] at HE0;exact HE0
        clear HE0;generalize (R k).key=uk at *;go_wp2_with fail;go_ret;exact ⟨ret_int HE.out.symm,rfl⟩
      · have HE:Hid (fR n R key=fi (fun i=>(R i).key == key) (n-(k+1)) (k+1)):=by rw [if_neg (by simpa using hq)] at HE0;exact HE0
        clear HE0;generalize (R k).key=uk at *;go_wp2_with fail;go_round
        case rel=>exact ⟨k+1,hlt,by go_num,HE⟩
        case measure=>simp [intOf];omega
    · have HE:Hid (fR n R key=-1):=by
        have h:=HC.out;rw [show n-k=0 by omega] at h;exact h
      clear HC;have hnl:¬((k:Int)<(n:Int)):=(by omega);go_wp2_with fail;go_ret;exact ⟨ret_int HE.out.symm,rfl⟩
end Go.Proofs.YtjdodbiphijjgaaGreat
