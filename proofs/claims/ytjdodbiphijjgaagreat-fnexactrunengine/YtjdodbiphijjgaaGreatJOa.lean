import Derived.Test.YtjdodbiphijjgaaGreatJVc
import Derived.Test.YtjdodbiphijjgaaGreatJGg
import Derived.Test.YtjdodbiphijjgaaGreatJFf
import Derived.Deep.RegionLaw
import Derived.Test.YtjdodbiphijjgaaGreatJVn
import Derived.Deep.DeepCutAuto
namespace Go.Proofs.YtjdodbiphijjgaaGreat
open Go.RowKit Go.Deep
set_option linter.unusedVariables false
set_option maxRecDepth 20000
theorem own_belowI {W wq:World} {B n s:Nat} {e:TypeId} {v:Value} {xs:List Value} (h:W.ownsRow B e s v n xs) (hb:Below W.heap.size W wq):wq.ownsRow B e s v n xs:=by
  obtain ⟨h1,h2 | ⟨g,cap,cur,rfl,k1,k2,k3⟩⟩:=h
  · exact ⟨h1,.inl h2⟩
  · refine ⟨h1,.inr ⟨g,cap,cur,rfl,k1,?_,k3⟩⟩;have hlt:g<W.heap.size:=(Array.getElem?_eq_some_iff.1 k2).1;exact (hb.block _ hlt).trans k2
def cb:List (Int × Int)→List Value
  | []=>[]
  | r :: rs=>[.int .i64 r.1,.int .i64 r.2] ++ cb rs
theorem cb_app:∀xs ys,cb (xs ++ ys)=cb xs ++ cb ys
  | [],ys=>rfl
  | r :: rs,ys=>by simp only [cb,List.cons_append,cb_app rs ys,List.append_assoc]
theorem cb_get:∀(xs:List (Int × Int)) (i j:Nat) (r:Int × Int),xs[i]? = some r→j<2→(cb xs)[i*2+j]? = [Value.int .i64 r.1,.int .i64 r.2][j]?
  | [],i,j,r,h,_=>by simp at h
  | x :: xs,0,j,r,h,hj=>by
    simp only [List.getElem?_cons_zero,Option.some.injEq] at h;subst h;simp only [cb];rw [List.getElem?_append_left (by simp;omega)]
    congr 1;omega
  | x :: xs,i+1,j,r,h,hj=>by
    simp only [List.getElem?_cons_succ] at h;simp only [cb];rw [List.getElem?_append_right (by simp;omega)];have:=cb_get xs i j r h hj;rw [←this]
    congr 1
    simp;omega
def kC (xs:List (Int × Int)) (i:Nat):Int:=(xs.getD i (0,0)).1
def vC (xs:List (Int × Int)) (i:Nat):Int:=(xs.getD i (0,0)).2
theorem ownC_of_row {w:World} {base:Nat} {v:Value} {xs:List (Int × Int)} (h:w.ownsRow base 114 2 v xs.length (cb xs)):∃a cap,v=.slice a xs.length cap∧Own w base w.heap.size a xs.length (kC xs) (vC xs):=by
  rcases h.2 with ⟨rfl,h0⟩ | ⟨g,cap,cur,rfl,hbg,hg,_⟩
  · exact ⟨none,0,by rw [h0],Nat.le_refl _,.inl h0⟩
  · have hlt:g<w.heap.size:=by
      obtain ⟨hlt,_⟩:=Array.getElem?_eq_some_iff.1 hg;exact hlt
    have c:∀i j u,i<xs.length→j<2→[Value.int .i64 (kC xs i),.int .i64 (vC xs i)][j]? = some u→w.cell? ⟨g,i*2+j,none⟩=some u:=fun i j u hi hj hu=>by
      obtain ⟨r,hr⟩:∃r,xs[i]? = some r:=⟨xs[i],by simp [hi]⟩;have er:xs.getD i (0,0)=r:=(by rw [List.getD_eq_getElem?_getD,hr];rfl);rw [h.cellAt (i*2+j) (by omega),cb_get xs i j r hr hj,←hu];simp only [kC,vC,er]
    refine ⟨some ⟨g,0,none⟩,cap,rfl,Nat.le_refl _,.inr ⟨g,0,rfl,hbg,hlt,fun i hi=>?_,fun i hi=>?_,fun i hi=>h.frozenAt _,fun i hi=>h.frozenAt _⟩⟩
    · have:=c i 0 _ hi (by omega) rfl
      rwa [show 0+i*2=i*2+0 by omega]
    · have:=c i 1 _ hi (by omega) rfl
      rwa [show 0+i*2+1=i*2+1 by omega]
theorem wp_appC {o:Oper} {a:Act} {Kc:Act→World→Prop} {Q:Exit→Act→World→Prop} (w:World) (s x:Operand)
    (ho:o.op=.call { callee:=.builtin .append,args:=#[s,x],argTypes:=#[44,44] })
    (base:Nat) (v:Value) (zs:List (Int × Int)) (hs:a.eval s=v) (hown:w.ownsRow base 114 2 v zs.length (cb zs)) (X O cx:Nat) (z:Int × Int) (hx:a.eval x=.slice (some ⟨X,O,none⟩) 1 cx) (hc:w.cell? ⟨X,O,none⟩=some (.int .i64 z.1)) (hc2:w.cell? ⟨X,O+1,none⟩=some (.int .i64 z.2)) (hb:base≤w.heap.size) (hl:zs.length≤100000)
    (hK:∀v' w',w'.ownsRow base 114 2 v' (zs ++ [z]).length (cb (zs ++ [z]))→w.grownBy w' v.ownBlock→Kc (a.put o.dst v') w'):o.wp Tryz.prog a w Kc Q:=by
  obtain ⟨i0,hi,hzz⟩:=Option.map_eq_some_iff.1 info99;simp only [Prod.mk.injEq] at hzz;obtain ⟨hz0,hz1,hz2⟩:=hzz;refine wp_append_own w s x 44 ho base 114 i0 _ 2 16 Tryz.underlying44 hi hz0 hz1 hz2 rfl (by decide) v zs.length (cb zs) hs hown ⟨X,O,none⟩ 1 cx [.int .i64 z.1,.int .i64 z.2] hx rfl (fun j u hj=>?_) (fun u hu=>by simp at hu;rcases hu with rfl | rfl <;> rfl) (by unfold maxLen;omega) (by omega) hb fun v' w' h2 h3 _=>hK v' w' ?_ h3
  · have hj2:j<2:=by have:=(List.getElem?_eq_some_iff.1 hj).1;simpa using this
    have:j=0∨j=1:=(by omega)
    rcases this with rfl | rfl
    · rw [WideShapes.add_plain,Nat.add_zero,hc,←hj];rfl
    · rw [WideShapes.add_plain,hc2,←hj];rfl
  · rw [List.length_append,cb_app];exact h2
theorem wpList_appC {ops:Array Oper} {rest:List Oper} {o:Oper} {a:Act} {Q:Exit→Act→World→Prop} (w:World) (hgd:o.guard=none) (s x:Operand)
    (ho:o.op=.call { callee:=.builtin .append,args:=#[s,x],argTypes:=#[44,44] })
    (base:Nat) (v:Value) (zs:List (Int × Int)) (hs:a.eval s=v) (hown:w.ownsRow base 114 2 v zs.length (cb zs)) (X O cx:Nat) (z:Int × Int) (hx:a.eval x=.slice (some ⟨X,O,none⟩) 1 cx) (hc:w.cell? ⟨X,O,none⟩=some (.int .i64 z.1)) (hc2:w.cell? ⟨X,O+1,none⟩=some (.int .i64 z.2)) (hb:base≤w.heap.size) (hl:zs.length≤100000)
    (hK:∀v' w',w'.ownsRow base 114 2 v' (zs ++ [z]).length (cb (zs ++ [z]))→w.grownBy w' v.ownBlock→wpList Tryz.prog ops Q rest (a.put o.dst v') w'):wpList Tryz.prog ops Q (o :: rest) a w:=
  wpList_plain hgd fun _ hKK=>wp_appC w s x ho base v zs hs hown X O cx z hx hc hc2 hb hl fun v' w' h2 h3=>hKK _ _ (hK v' w' h2 h3)
def SRes (c:Int) (zs:List (Int × Int)) (w:World) (e:Ending) (w':World):Prop:=
  ∃a cap,e=.returned (.agg #[.int .i64 c,.slice a (if c=0 then zs else []).length cap])∧Below w.heap.size w w'∧Own w' w.heap.size w'.heap.size a (if c=0 then zs else []).length (kC (if c=0 then zs else [])) (vC (if c=0 then zs else []))
theorem sres_bad {c:Int} {zs:List (Int × Int)} {w w':World} (hb:Below w.heap.size w w') (hc:c≠0):SRes c zs w (.returned (.agg #[.int .i64 c,.slice none 0 0])) w':=by
  rw [SRes];simp only [if_neg hc];exact ⟨none,0,rfl,hb,Nat.le_refl _,.inl rfl⟩
theorem sres_ok {c:Int} {zs:List (Int × Int)} {w wq w':World} {v:Value} {lo l h:Nat} (hc:c=0) (hB:Below w.heap.size w wq) (hl:w.heap.size≤l) (hlh:l≤h) (hh:h≤lo)
    (ho:wq.ownsRow lo 114 2 v zs.length (cb zs)) (hw:Writes l h wq w') (hs:w'.heap.size=wq.heap.size):SRes c zs w (.returned (.agg #[.int .i64 0,v])) w':=by
  rw [SRes,hc];simp only [if_true];obtain ⟨a,cap,rfl,ho2⟩:=ownC_of_row ho;refine ⟨a,cap,rfl,Writes.below hB hw hl,?_⟩;rw [hs];exact (ho2.writes hw (.inr hh)).wide (by omega) (Nat.le_refl _) (by omega)
def scB (q:Nat) (R:Nat→Rw) (x o lo hi:Int) (k:Nat):Bool:=rdB q R x o (R k).key && inB (R k).key lo hi
def scL (q:Nat) (R:Nat→Rw) (x o lo hi:Int):Nat→List (Int × Int)
  | 0=>[]
  | k+1=>if scB q R x o lo hi k=true then scL q R x o lo hi k ++ [((R k).key,rdV q R x o (R k).key)] else scL q R x o lo hi k
theorem scL_len (q:Nat) (R:Nat→Rw) (x o lo hi:Int):∀k,(scL q R x o lo hi k).length≤k
  | 0=>Nat.le_refl _
  | k+1=>by
    have:=scL_len q R x o lo hi k;simp only [scL];split
    · simp;omega
    · omega
theorem fi_self {f:Nat→Bool}:∀(m k j:Nat),j<m→f (k+j)=true→(∀i,i<j→f (k+i)=false)→fi f m k=((k+j:Nat):Int)
  | 0,k,j,h,_,_=>absurd h (Nat.not_lt_zero _)
  | m+1,k,0,h,h1,h2=>by simp [fi,show f k=true from h1]
  | m+1,k,j+1,h,h1,h2=>by
    have h0:f k=false:=h2 0 (by omega);have:=fi_self (f:=f) m (k+1) j (by omega) (by rw [show k+1+j=k+(j+1) by omega];exact h1) (fun i hi=>by rw [show k+1+i=k+(i+1) by omega];exact h2 (i+1) (by omega));simp only [fi,h0];rw [show k+(j+1)=k+1+j by omega,←this];rfl
theorem fR_self {q:Nat} {R:Nat→Rw} (hs:∀j,j<q→∀i,i<j→(R i).key<(R j).key) {k:Nat} (hk:k<q):fR q R (R k).key=(k:Int):=by
  have:=fi_self (f:=fun i=>(R i).key == (R k).key) q 0 k hk (by simp) (fun i hi=>by have:=hs k hk i hi;simp;omega);rw [Nat.zero_add] at this;exact this
set_option maxHeartbeats 8000000 in
theorem l6Scan_any (E:En) (B:Nat) (a:Option Addr) (cap:Nat) (a':Option Addr) (cap':Nat) (x o lo hi:Int) (w:World) (hq:E.q≤32) (hr:∀i,i<E.q→(E.R i).n≤12) (h:EBox w B a cap a' cap' E) :
    Calls Tryz.prog 190 #[.pointer (some ⟨B,0,none⟩),.agg #[.int .i64 x,.int .i64 o],.int .i64 lo,.int .i64 hi] w fun e w'=>∃v,e=.returned v∧Below w.heap.size w w'∧w'.ownsRow w.heap.size 114 2 v (scL E.q E.R x o lo hi E.q).length (cb (scL E.q E.R x o lo hi E.q)):=by
  have HX:Hid (EBox w B a cap a' cap' E):=h;have HR:Hid (∀i,i<E.q→(E.R i).n≤12):=hr;clear h hr
  have HI:Hid (∀o1:Obj,o1=.cells #[.int .i64 x,.int .i64 o] 122→Below w.heap.size w ((w.alloc o1).alloc (.cells #[] 114))∧Box2 ((w.alloc o1).alloc (.cells #[] 114)) w.heap.size (.int .i64 x) (.int .i64 o)∧((w.alloc o1).alloc (.cells #[] 114)).heap.size=w.heap.size+2∧((w.alloc o1).alloc (.cells #[] 114)).ownsRow (w.heap.size+1) 114 2 (.slice (some ⟨w.heap.size+1,0,none⟩) 0 0) 0 []):=by
    rintro o1 rfl;refine ⟨((Below.refl _ _).alloc (Nat.le_refl _) _).alloc (by simp) _,(Box2.new w _ _ _).alloc _,by simp,?_⟩;have h:=World.ownsRow_made (base:=w.heap.size+1) (e:=114) (size:=2) (w.alloc (.cells #[.int .i64 x,.int .i64 o] 122)) #[] 0 (by simp) (by unfold maxLen;omega) rfl;rw [World.size_alloc] at h;exact h
  go_enter Tryz.func190,Tryz.ntmps190;go_wp2_with fail;go_loopw [9,10,11,12,13] (fun v i _ _ _ wr=>∃k:Nat,k≤E.q∧i=.int .i64 k∧Hid (Below w.heap.size w wr∧Box2 wr w.heap.size (.int .i64 x) (.int .i64 o)∧w.heap.size+2≤wr.heap.size)∧Hid (wr.ownsRow (w.heap.size+1) 114 2 v (scL E.q E.R x o lo hi k).length (cb (scL E.q E.R x o lo hi k)))) (fun _ i _ _ _ _=>E.q-(intOf i).toNat)
  case atStart=>
    obtain ⟨h1,h2,h3,h4⟩:=HI.out _ rfl;exact ⟨0,Nat.zero_le _,rfl,⟨h1,h2,by rw [h3];omega⟩,h4⟩
  case round=>
    clear HI;obtain ⟨k,hk,rfl,HB,HO⟩:=hrel;have hsz:=HB.out.2.2;have HX1:Hid (EBox wr B a cap a' cap' E):=HX.out.below HB.out.1;obtain ⟨⟨b0,b1,b2,b3⟩,-,hRA⟩:=HX1.out;obtain ⟨v0,v1⟩:=HB.out.2.1
    by_cases hlt:k<E.q
    · have hlt':(k:Int)<(E.q:Int):=by omega
      have hk0:(0:Int)≤(k:Int):=(by omega)
      rcases hRA with h | ⟨rb,ro,rfl,hrl,hrc⟩
      · omega
      obtain ⟨ri,rcp,⟨z0,z1⟩,-,-⟩:=hrc k hlt;clear hrc b0 b1 b2 z1;go_wp2_with fail;refine (l6Read_any E B a cap _ cap' x o (E.R k).key _ hq HR.out HX1.out).mono ?_;rintro e w1 ⟨rfl,hb1⟩;have HB1:Hid (Below w.heap.size w w1∧Box2 w1 w.heap.size (.int .i64 x) (.int .i64 o)∧w.heap.size+2≤w1.heap.size):=⟨below_then HB.out.1 hb1,HB.out.2.1.below hb1,Nat.le_trans hsz hb1.size⟩;have HO1:=own_belowI HO.out hb1;have hsz1:w.heap.size+2≤w1.heap.size:=HB1.out.2.2;clear hb1 HB HO HX1 b3 v0 v1 z0 hrl
      obtain hs | hs:=bool_or2 (scB E.q E.R x o lo hi k)
      · have HE:Hid (scL E.q E.R x o lo hi (k+1)=scL E.q E.R x o lo hi k ++ [((E.R k).key,rdV E.q E.R x o (E.R k).key)]):=if_pos hs;have hs2:=hs;unfold scB at hs2;rw [Bool.and_eq_true] at hs2;obtain ⟨g1,g2⟩:=hs2;have HLK:Hid ((scL E.q E.R x o lo hi k).length≤100000):=(by have:=scL_len E.q E.R x o lo hi k;show _≤_;omega);have HOA:Hid (∀o1:Obj,(w1.alloc o1).ownsRow (w.heap.size+1) 114 2 _ (scL E.q E.R x o lo hi k).length (cb (scL E.q E.R x o lo hi k))):=fun o1=>own_belowI HO1 (below_new _ _);rw [g1];clear hs g1 HO1;generalize rdV E.q E.R x o (E.R k).key=vv at *;generalize scL E.q E.R x o lo hi k=zs at *;go_wp2_with (first | (go_at_call 75;refine (l1In_any _ _ _ _).mono ?_;rintro e w' ⟨rfl,hw'⟩;rw [hw'];clear hw') | (at_builtin;refine wpList_appC _ rfl (.tmp 46) (.tmp 50) rfl (w.heap.size+1) _ zs rfl (HOA.out _) w1.heap.size 0 1 ((E.R k).key,vv) rfl (by simp [go_sem]) (by simp [go_sem]) (by simp;omega) HLK.out ?_));intro v2 w3 ho3 hg3;have hwr:Writes (w.heap.size+1) (w1.alloc (.cells #[.int .i64 (E.R k).key,.int .i64 vv] 114)).heap.size (w1.alloc (.cells #[.int .i64 (E.R k).key,.int .i64 vv] 114)) w3:=⟨hg3.os,hg3.tape,hg3.output,hg3.size,fun j hj hd=>hg3.block j hj fun e=>by have:=((HOA.out (.cells #[.int .i64 (E.R k).key,.int .i64 vv] 114)).lt j e.symm).1;omega⟩;have HB3:Hid (Below w.heap.size w w3∧Box2 w3 w.heap.size (.int .i64 x) (.int .i64 o)∧w.heap.size+2≤w3.heap.size):=⟨Writes.below (below_then HB1.out.1 (below_new _ _)) hwr (by omega),(HB1.out.2.1.alloc _).writes hwr (by omega),by have:=hwr.size;simp at this;omega⟩
        have HO3:Hid (w3.ownsRow (w.heap.size+1) 114 2 v2 (scL E.q E.R x o lo hi (k+1)).length (cb (scL E.q E.R x o lo hi (k+1)))):=by
          show w3.ownsRow _ _ _ _ _ _;rw [HE.out]
          first | exact ho3 | simpa using ho3
        clear ho3 hg3 hwr HOA HB1;go_wp2_with fail;go_roundw
        case rel=>exact ⟨k+1,hlt,by go_num,HB3,HO3⟩
        case measure=>simp [intOf];omega
      · have HE:Hid (scL E.q E.R x o lo hi (k+1)=scL E.q E.R x o lo hi k):=if_neg (by simp [hs]);rw [←HE.out] at HO1;have HO3:Hid (w1.ownsRow _ _ _ _ _ _):=HO1;unfold scB at hs;clear HO1
        obtain g1 | g1:=bool_or2 (rdB E.q E.R x o (E.R k).key)
        · rw [g1,Bool.true_and] at hs;rw [g1];clear g1;generalize rdV E.q E.R x o (E.R k).key=vv at *;go_wp2_with (first | (go_at_call 75;refine (l1In_any _ _ _ _).mono ?_;rintro e w' ⟨rfl,hw'⟩;rw [hw'];clear hw'));go_roundw
          case rel=>exact ⟨k+1,hlt,by go_num,HB1,HO3⟩
          case measure=>simp [intOf];omega
        · rw [g1];clear g1 hs;generalize rdV E.q E.R x o (E.R k).key=vv at *;go_wp2_with fail;go_roundw
          case rel=>exact ⟨k+1,hlt,by go_num,HB1,HO3⟩
          case measure=>simp [intOf];omega
    · have hkn:k=E.q:=by omega
      have hnl:¬((k:Int)<(E.q:Int)):=(by omega);obtain ⟨va,vc,rfl,-⟩:=ownC_of_row HO.out
      have HF:Hid (Below w.heap.size w wr∧wr.ownsRow w.heap.size 114 2 (.slice va (scL E.q E.R x o lo hi k).length vc) (scL E.q E.R x o lo hi E.q).length (cb (scL E.q E.R x o lo hi E.q))):=by
        have hO:=HO.out;rw [hkn] at hO ⊢;refine ⟨HB.out.1,?_⟩;obtain ⟨k1,k2 | ⟨g,gc,cur,e,m1,m2,m3⟩⟩:=hO
        · exact ⟨k1,.inl k2⟩
        · exact ⟨k1,.inr ⟨g,gc,cur,e,by omega,m2,m3⟩⟩
      clear HO HB hkn hRA;generalize (scL E.q E.R x o lo hi k).length=len at *;go_wp2_with fail;go_ret;exact ⟨_,rfl,HF.out⟩
def skQ (E:En) (id lo hi:Int):List (Int × Int):=scL E.q E.R (E.T (askP E id).toNat).am (E.T (askP E id).toNat).id lo hi E.q
theorem skL_at {E:En} {id lo hi:Int} {j:Nat} (hj:askP E id=(j:Int)):skQ E id lo hi=scL E.q E.R (E.T j).am (E.T j).id lo hi E.q:=by
  unfold skQ;rw [hj,Int.toNat_natCast]
set_option maxHeartbeats 4000000 in
theorem specSk_any (E:En) (a:Option Addr) (cap:Nat) (a':Option Addr) (cap':Nat) (id lo hi:Int) (w:World) (hs:SmallE E) (h:EngAt w a a' E) :
    Calls Tryz.prog 136 #[.agg #[.int .i64 E.nx,.int .i64 E.ck,.slice a E.p cap,.slice a' E.q cap'],.int .i64 id,.int .i64 lo,.int .i64 hi] w (SRes (askC E id) (skQ E id lo hi) w):=by
  have HX:Hid (EngAt w a a' E):=h;have HS:Hid (SmallE E):=hs;clear h hs
  have HBX:Hid (∀o1 o2:Obj,o1=.cells #[.int .i64 E.nx,.int .i64 E.ck,.slice a E.p cap,.slice a' E.q cap'] 30→o2=.cells #[.int .i64 0,.slice none 0 0] 196→
      Box4 ((w.alloc o1).alloc o2) w.heap.size (.int .i64 E.nx) (.int .i64 E.ck) (.slice a E.p cap) (.slice a' E.q cap')∧Box2 ((w.alloc o1).alloc o2) (w.heap.size+1) (.int .i64 0) (.slice none 0 0)∧(∀i,((w.alloc o1).alloc o2).frozen? ⟨w.heap.size+1,i,none⟩=false)∧Below w.heap.size w ((w.alloc o1).alloc o2)∧((w.alloc o1).alloc o2).heap.size=w.heap.size+2):=by
    rintro o1 o2 rfl rfl;exact ⟨(Box4.new w _ _ _ _ _).alloc _,by simp [Box2,go_sem],fun i=>by simp [go_sem],((Below.refl _ _).alloc (Nat.le_refl _) _).alloc (by simp) _,by simp⟩
  go_enter Tryz.func136,Tryz.ntmps136;go_wp2_with fail;obtain ⟨hb4,hb2,hbf,hbw,hbs⟩:=HBX.out _ _ rfl rfl;refine (l6Asked_any E w.heap.size a cap a' cap' id _ HS.out ⟨hb4,HX.out.below hbw⟩).mono ?_;rintro e w1 ⟨rfl,hb1⟩;have HB4:Hid (Box4 w1 w.heap.size (.int .i64 E.nx) (.int .i64 E.ck) (.slice a E.p cap) (.slice a' E.q cap')):=hb4.below hb1;obtain ⟨r0,r1⟩:=hb2.below hb1;have rf:∀i,w1.frozen? ⟨w.heap.size+1,i,none⟩=false:=fun i=>((bcell2 hb1).2 _ _ (by rw [hbs];omega)).trans (hbf i);have HB1:Hid (Below w.heap.size w w1):=below_then hbw hb1;have hs1:w.heap.size+2≤w1.heap.size:=(by have:=hb1.size;rw [hbs] at this;exact this);clear hb1 hb4 hb2 hbf hbw hbs HBX
  by_cases hc:askC E id=0
  case neg=>
    have HF:Hid (∀w7,Below w.heap.size w w7→SRes (askC E id) (skQ E id lo hi) w (.returned (.agg #[.int .i64 (askC E id),.slice none 0 0])) w7):=fun w7 hb=>sres_bad hb hc;have hc2:(askC E id != 0)=true:=(by simp [hc]);clear hc;generalize askC E id=uu at *;generalize askP E id=up at *;go_wp2_with fail;refine bodyPost_ret (v:=.agg #[.int .i64 uu,.slice none 0 0]) (by simp [results,Tryz.results136,go_sem, *]) rfl ?_;refine HF.out _ ?_
    repeat (first | with_reducible exact HB1.out | with_reducible refine Below.setCell ?_ (by first | omega | (simp <;> omega)) _)
  obtain ⟨h0,j,hj,hp,-⟩:=ask_open hc;have HE:Hid (skQ E id lo hi=scL E.q E.R (E.T j).am (E.T j).id lo hi E.q):=skL_at hp;have HC0:Hid (askC E id=0):=hc;have HR12:Hid (∀i,i<E.q→(E.R i).n≤12):=rows12 h0;have h32:=(eF_pq h0).2;have hp20:=(eF_pq h0).1;have HX1:Hid (EngAt w1 a a' E):=HX.out.below HB1.out;rw [hc,hp]
  rcases HX1.out.1 with h | ⟨bb,off,rfl,hl,hcc⟩
  · omega
  obtain ⟨ti,tc,hCT,-,-⟩:=hcc j hj;have HCT:Hid (CTx w1 bb (off+j*5) (E.T j) ti tc):=hCT;have hj1:(j:Int)<(E.p:Int):=(by omega);have hj0:(0:Int)≤(j:Int):=(by omega);obtain ⟨b0,b1,b2,b3⟩:=HB4.out;clear hc hp h0 hcc hCT b0 b1 b3;go_wp2_with fail;refine (l6View_any (E.T j) bb (off+j*5) ti tc w1 HCT.out).mono ?_;rintro e w2 ⟨rfl,hb2⟩;have HB2:Hid (Below w.heap.size w w2):=below_then HB1.out hb2;have HX2:Hid (EBox w2 w.heap.size (some ⟨bb,off,none⟩) cap a' cap' E):=⟨HB4.out.below hb2,HX1.out.below hb2⟩;replace r0:=cell_below r0 hb2;replace r1:=cell_below r1 hb2;replace rf:∀i,w2.frozen? ⟨w.heap.size+1,i,none⟩=false:=fun i=>((bcell2 hb2).2 _ _ (by omega)).trans (rf i);have hs2:w.heap.size+2≤w2.heap.size:=Nat.le_trans hs1 hb2.size;clear hb2 b2 HB1 HX1 HB4 HCT;go_wp2_with fail;refine (l6Scan_any E w.heap.size _ cap a' cap' (E.T j).am (E.T j).id lo hi w2 h32 HR12.out HX2.out).mono ?_;rintro e w3 ⟨v,rfl,hb3,ho3⟩;obtain ⟨va,vc,rfl,-⟩:=ownC_of_row ho3
  have HF:Hid (∀w7,Writes (w.heap.size+1) (w.heap.size+2) w3 w7→w7.heap.size=w3.heap.size→SRes (askC E id) (skQ E id lo hi) w (.returned (.agg #[.int .i64 0,.slice va (scL E.q E.R (E.T j).am (E.T j).id lo hi E.q).length vc])) w7):=fun w7 hw hs7=>by
    rw [HE.out];exact sres_ok HC0.out (below_then HB2.out hb3) (by omega) (by omega) hs2 ho3 hw hs7
  replace r0:=cell_below r0 hb3;replace r1:=cell_below r1 hb3;replace rf:∀i,w3.frozen? ⟨w.heap.size+1,i,none⟩=false:=fun i=>((bcell2 hb3).2 _ _ (by omega)).trans (rf i);clear hb3 ho3 HB2 HX2;generalize (scL E.q E.R (E.T j).am (E.T j).id lo hi E.q).length=len at *;go_wp2_with fail;refine bodyPost_ret (v:=.agg #[.int .i64 0,.slice va len vc]) (by simp [results,Tryz.results136,go_sem, *]) rfl ?_;refine HF.out _ ?_ (by simp [World.setCell])
  repeat (first | with_reducible exact Writes.refl _ _ _ | with_reducible refine Writes.setCell ?_ (by first | omega | (simp <;> omega)) (by first | omega | (simp <;> omega)) _)
end Go.Proofs.YtjdodbiphijjgaaGreat
