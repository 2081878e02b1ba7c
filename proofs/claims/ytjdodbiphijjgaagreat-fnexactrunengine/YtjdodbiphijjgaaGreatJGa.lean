import Derived.Test.YtjdodbiphijjgaaGreatJVg
import Derived.Deep.RegionLaw
namespace Go.Proofs.YtjdodbiphijjgaaGreat
open Go.RowKit Go.Deep
set_option linter.unusedVariables false
set_option maxRecDepth 20000
theorem bool_or2 (b:Bool):b=true∨b=false:=by cases b <;> simp
set_option maxHeartbeats 2000000 in
theorem undoFault_any (u:Ud) (w:World):Calls Tryz.prog 194 #[.agg #[.int .i64 u.k,.bool u.h,.bool u.g,.int .i64 u.v]] w fun e w'=>e=.returned (.int .i64 (uF u))∧Below w.heap.size w w':=by
  have HX:Hid (uF u=if inB u.k 0 31=false∨inB u.v 0 9999=false then 3 else if uB u=true then 1 else 0):=rfl
  obtain hk1 | hk1:=bool_or2 (inB u.k 0 31)
  · obtain hv1 | hv1:=bool_or2 (inB u.v 0 9999)
    · obtain ⟨uk,uh,ug,uv⟩:=u;dsimp only at *
      obtain hz | hz:=bool_or2 (uv != 0) <;> cases uh <;> cases ug
      all_goals
        have HE:Hid (uF ⟨uk,_,_,uv⟩=_):=HX.out.trans ((if_neg (by simp [hk1,hv1])).trans (by simp only [uB,hz];rfl));clear HX;go_enter Tryz.func194,Tryz.ntmps194;go_wp2_with (first | (go_at_call 99;refine (isKey_any _ _).mono ?_;rintro e w' ⟨rfl,rfl⟩) | (go_at_call 120;refine (isValue_any _ _).mono ?_;rintro e w' ⟨rfl,rfl⟩));go_ret;exact ⟨ret_int HE.out.symm,below_new _ _⟩
    · have HE:Hid (uF u=3):=by rw [HX.out,if_pos (.inr hv1)];rfl
      clear HX;go_enter Tryz.func194,Tryz.ntmps194;go_wp2_with (first | (go_at_call 99;refine (isKey_any _ _).mono ?_;rintro e w' ⟨rfl,rfl⟩) | (go_at_call 120;refine (isValue_any _ _).mono ?_;rintro e w' ⟨rfl,rfl⟩));go_ret;exact ⟨ret_int HE.out.symm,below_new _ _⟩
  · have HE:Hid (uF u=3):=by rw [HX.out,if_pos (.inl hk1)];rfl
    clear HX;go_enter Tryz.func194,Tryz.ntmps194;go_wp2_with (first | (go_at_call 99;refine (isKey_any _ _).mono ?_;rintro e w' ⟨rfl,rfl⟩) | (go_at_call 120;refine (isValue_any _ _).mono ?_;rintro e w' ⟨rfl,rfl⟩));go_ret;exact ⟨ret_int HE.out.symm,below_new _ _⟩
set_option maxHeartbeats 2000000 in
theorem txnInBounds_any (nx ck:Int) (a a' ai:Option Addr) (p q cap cap' ci:Nat) (t:Tx) (w:World) (hN:1≤nx∧nx≤999) :
    Calls Tryz.prog 192 #[.agg #[.int .i64 nx,.int .i64 ck,.slice a p cap,.slice a' q cap'],.agg #[.int .i64 t.id,.int .i64 t.am,.int .i64 t.st,.int .i64 t.dn,.slice ai t.n ci]] w fun e w'=>e=.returned (.bool (tIn nx ck t))∧Below w.heap.size w w':=by
  have hwn:IntKind.i64.wrap (nx-1)=nx-1:=(by rw [IntKind.wrap_i64];omega);have hb0:∀o1 o2,Below w.heap.size w ((w.alloc o1).alloc o2):=fun o1 o2=>(((Below.refl _ _).alloc (Nat.le_refl _) _).alloc (by simp) _)
  have HI:Hid (∀x1 x2 x3 x4:Bool,inB t.id 1 (nx-1)=x1→inB t.am 0 ck=x2→inB t.st 1 3=x3→inB t.dn 0 ck=x4→tIn nx ck t=(x1 && x2 && x3 && x4)):=fun _ _ _ _ h1 h2 h3 h4=>by rw [tIn,h1,h2,h3,h4]
  obtain h1 | h1:=bool_or2 (inB t.id 1 (nx-1)) <;> obtain h2 | h2:=bool_or2 (inB t.am 0 ck) <;> obtain h3 | h3:=bool_or2 (inB t.st 1 3) <;> obtain h4 | h4:=bool_or2 (inB t.dn 0 ck)
  all_goals
    have HE:Hid (tIn nx ck t=_):=HI.out _ _ _ _ h1 h2 h3 h4;clear HI;go_enter Tryz.func192,Tryz.ntmps192;go_wp2_with (first | (go_at_call 145;refine (within_any _ _ _ _).mono ?_;rintro e w' ⟨rfl,rfl⟩));go_ret;exact ⟨ret_bool (by rw [HE.out];rfl),hb0 _ _⟩
set_option maxHeartbeats 2000000 in
theorem txnHasForm_any (ai:Option Addr) (ci:Nat) (t:Tx) (w:World) :
    Calls Tryz.prog 193 #[.agg #[.int .i64 t.id,.int .i64 t.am,.int .i64 t.st,.int .i64 t.dn,.slice ai t.n ci]] w fun e w'=>e=.returned (.bool (!(tB2 t || tB3 t)))∧Below w.heap.size w w':=by
  have HI:Hid (∀x1 x2 x3 x4 x5:Bool,(t.dn != 0)=x1→(t.st != 2)=x2→decide (t.dn≤t.am)=x3→decide (0<t.n)=x4→(t.st != 1)=x5→(!(tB2 t || tB3 t))=!((x1 && (x2 || x3)) || (x4 && x5))):=fun _ _ _ _ _ h1 h2 h3 h4 h5=>by rw [tB2,tB3,h1,h2,h3,h4,h5]
  obtain ⟨tid,tam,tst,tdn,n,U⟩:=t;dsimp only at *
  have h3:∃b,decide (0<n)=!b∧((n:Int) == 0)=b:=by
    rcases Nat.eq_zero_or_pos n with rfl | hp
    · exact ⟨true,by simp,by simp⟩
    · exact ⟨false,by simp;omega,by simp;omega⟩
  obtain ⟨bn,hn1,hn2⟩:=h3;have hs:(tst == 1)=!(tst != 1):=(by simp [bne])
  obtain hd1 | hd1:=bool_or2 (tdn != 0) <;> obtain hs2 | hs2:=bool_or2 (tst != 2) <;> obtain hl2 | hl2:=bool_or2 (decide (tdn≤tam)) <;> obtain hs1 | hs1:=bool_or2 (tst != 1) <;> cases bn
  all_goals
    rw [hs1] at hs;have HE:Hid ((!(tB2 ⟨tid,tam,tst,tdn,n,U⟩ || tB3 ⟨tid,tam,tst,tdn,n,U⟩))=_):=HI.out _ _ _ _ _ hd1 hs2 hl2 hn1 hs1;clear HI hn1;go_enter Tryz.func193,Tryz.ntmps193;go_wp2_with fail;go_ret;exact ⟨ret_bool (by rw [HE.out];rfl),below_new _ _⟩
theorem hasU_fi (U:Nat→Ud) (key:Int) (n:Nat):hasU U key n=decide (0≤fi (fun i=>(U i).k == key) n 0):=by
  rcases fi_cases (fun i=>(U i).k == key) n with ⟨h1,h2⟩ | ⟨j,h1,h2,h3,h4⟩
  · rw [h1];cases e:hasU U key n with
    | false=>rfl
    | true=>
      obtain ⟨i,hi,hk⟩:=(hasU_iff U key n).1 e;have:=h2 i hi;simp [hk] at this
  · rw [h2,hasU_true h1 (by simpa using h3)];simp
theorem hasUndo1_any (u:Ud) (B:Nat) (key:Int) (w:World) (hc:w.cell? ⟨B,0,none⟩=some (.int .i64 key)) :
    Calls Tryz.prog 228 #[.agg #[.int .i64 u.k,.bool u.h,.bool u.g,.int .i64 u.v],.pointer (some ⟨B,0,none⟩)] w fun e w'=>e=.returned (.bool (u.k == key))∧Below w.heap.size w w':=by
  have h2:=fun o:Obj=>cell_alloc hc o;go_enter Tryz.func228,Tryz.ntmps228;go_wp2_with fail;go_ret;exact ⟨rfl,below_new _ _⟩
set_option maxHeartbeats 1000000 in
theorem idxUndo_any (n:Nat) (U:Nat→Ud) (a:Option Addr) (cap:Nat) (B:Nat) (key:Int) (w:World) (hn:n≤1048576) (hc:w.cell? ⟨B,0,none⟩=some (.int .i64 key)) (h:UndsAt w a n U) :
    Calls Tryz.prog 239 #[.slice a n cap,.func (.func 228) #[] #[.pointer (some ⟨B,0,none⟩)]] w fun e w'=>e=.returned (.int .i64 (fi (fun i=>(U i).k == key) n 0))∧Below w.heap.size w w':=by
  have HA:Hid (UndsAt w a n U):=h;have HC0:Hid (w.cell? ⟨B,0,none⟩=some (.int .i64 key)):=hc;generalize hC:fi (fun i=>(U i).k == key) n 0=C;clear h hc;go_enter Tryz.func239,Tryz.ntmps239;go_wp2_with fail;go_loopw [5,8] (fun _ i wr=>∃k:Nat,k≤n∧i=.int .i64 k∧Hid (C=fi (fun i=>(U i).k == key) (n-k) k)∧Hid (Below w.heap.size w wr)) (fun _ i _=>n-(intOf i).toNat)
  case atStart=>exact ⟨0,Nat.zero_le _,rfl,hC.symm,Below.refl _ _⟩
  case round=>
    obtain ⟨k,hk,rfl,HC,HB⟩:=hrel
    by_cases hlt:k<n
    · have hlt':(k:Int)<(n:Int):=by omega
      have hk0:(0:Int)≤(k:Int):=(by omega)
      rcases HA.out.below HB.out with h | ⟨bb,off,rfl,hl,hcc⟩
      · omega
      obtain ⟨x0,x1,x2,x3⟩:=hcc k hlt;have HE0:=HC.out.trans (fi_at _ hlt);have HCW:Hid (wr.cell? ⟨B,0,none⟩=some (.int .i64 key)):=cell_below HC0.out HB.out;clear hcc HC hC;go_wp2_with fail;refine (hasUndo1_any (U k) B key wr HCW.out).mono ?_;rintro e w1 ⟨rfl,hb1⟩;have HB1:Hid (Below w.heap.size w w1):=below_then HB.out hb1;clear hb1 x0 x1 x2 x3 HCW
      obtain hq | hq:=bool_or2 ((U k).k == key)
      · have HE:Hid (C=k):=by rw [if_pos hq] at HE0;exact HE0
        clear HE0;rw [hq];go_wp2_with fail;go_ret;exact ⟨ret_int HE.out.symm,HB1.out⟩
      · have HE:Hid (C=fi (fun i=>(U i).k == key) (n-(k+1)) (k+1)):=by rw [if_neg (by simpa using hq)] at HE0;exact HE0
        clear HE0;rw [hq];go_wp2_with fail;go_roundw
        case rel=>exact ⟨k+1,hlt,by go_num,HE,HB1⟩
        case measure=>simp [intOf];omega
    · have HE:Hid (C=-1):=by
        have h:=HC.out;rw [show n-k=0 by omega] at h;exact h
      clear HC hC;have hnl:¬((k:Int)<(n:Int)):=(by omega);go_wp2_with fail;go_ret;exact ⟨ret_int HE.out.symm,HB.out⟩
theorem hasUndo_any (n:Nat) (U:Nat→Ud) (a:Option Addr) (cap:Nat) (key:Int) (w:World) (hn:n≤1048576) (h:UndsAt w a n U) :
    Calls Tryz.prog 197 #[.slice a n cap,.int .i64 key] w fun e w'=>e=.returned (.bool (hasU U key n))∧Below w.heap.size w w':=by
  have HA:Hid (∀o:Obj,UndsAt (w.alloc o) a n U):=fun o=>h.below (below_new _ _);have hmf:∀(fn:Fn) (first cap:Array Value) (w:World),(Instr.makeFunc fn first cap).run Tryz.prog w=.ok (.func fn first cap) w:=fun _ _ _ _=>rfl;have HF:Hid (hasU U key n=decide (0≤fi (fun i=>(U i).k == key) n 0)):=hasU_fi U key n
  have HQ:Hid (∀o:Obj,o=.cells #[.int .i64 key] 2→Calls Tryz.prog 227 #[.slice a n cap,.func (.func 228) #[] #[.pointer (some ⟨w.heap.size,0,none⟩)]] (w.alloc o) fun e w'=>e=.returned (.bool (hasU U key n))∧Below w.heap.size w w'):=by
    rintro o rfl;have hcell:(w.alloc (.cells #[.int .i64 key] 2)).cell? ⟨w.heap.size,0,none⟩=some (.int .i64 key):=(by simp [go_sem]);have HAA:=HA.out (.cells #[.int .i64 key] 2);have HBB:Hid (Below w.heap.size w (w.alloc (.cells #[.int .i64 key] 2))):=below_new _ _;have hBW:w.heap.size≤(w.alloc (.cells #[.int .i64 key] 2)).heap.size:=HBB.out.size;clear hmf HA;generalize w.alloc (.cells #[.int .i64 key] 2)=W at *;generalize w.heap.size=B at *;go_enter Tryz.func227,Tryz.ntmps227;go_wp2_with fail;refine (idxUndo_any n U a cap B key W hn hcell HAA).mono ?_;rintro e w1 ⟨rfl,hb1⟩;have HB1:Hid (Below B w w1):=HBB.out.trans (hb1.mono hBW);clear hb1 hcell HAA;generalize fi (fun i=>(U i).k == key) n 0=C at *;go_wp2_with fail;go_ret;exact ⟨ret_bool HF.out.symm,HB1.out⟩
  clear h;go_enter Tryz.func197,Tryz.ntmps197;go_wp2_with fail;refine (HQ.out _ rfl).mono ?_;rintro e w1 ⟨rfl,hb1⟩;have HB1:Hid (Below w.heap.size w w1):=hb1;clear HQ HA HF hb1;go_wp2_with fail;go_ret;exact ⟨rfl,HB1.out⟩
end Go.Proofs.YtjdodbiphijjgaaGreat
