import Derived.Test.YtjdodbiphijjgaaGreatJRqr
import Derived.Test.YtjdodbiphijjgaaGreatJRsa
import Derived.Test.YtjdodbiphijjgaaGreatJVl
import Derived.Test.YtjdodbiphijjgaaGreatJVj
import Derived.Test.YtjdodbiphijjgaaGreatJRsf
import Derived.Test.YtjdodbiphijjgaaGreatJCb
import Derived.Test.YtjdodbiphijjgaaGreatJVn
namespace Go.Proofs.YtjdodbiphijjgaaGreat
open Go.RowKit Go.Deep
set_option linter.unusedVariables false
set_option linter.unusedSimpArgs false
set_option maxRecDepth 20000
open Go.RowKit Go.Deep Go.Shelf
def stN (xs:List HRw) (p:Nat) (y:HRw) (k:Nat):List HRw:=if k≤p then xs.take k else xs.take p ++ y :: (xs.take k).drop p
theorem stN_last {xs:List HRw} {p:Nat} {y:HRw} (h:p<xs.length):stN xs p y xs.length=skH false p y xs:=by
  unfold stN skH;rw [if_neg (by omega),List.take_length];rfl
theorem stN_all {xs:List HRw} {y:HRw}:stN xs xs.length y xs.length ++ [y]=skH false xs.length y xs:=by
  unfold stN skH;rw [if_pos (Nat.le_refl _),List.take_length];simp
theorem stN_at {xs:List HRw} {p:Nat} {y x:HRw} (hx:xs[p]? = some x):stN xs p y (p+1)=(stN xs p y p ++ [y]) ++ [x]:=by
  have hk:p<xs.length:=(List.getElem?_eq_some_iff.1 hx).1;have hl:(xs.take p).length=p:=(by rw [List.length_take];omega);unfold stN;rw [if_neg (by omega),if_pos (Nat.le_refl _),take_next hx,List.drop_append,hl,Nat.sub_self];simp
theorem stN_other {xs:List HRw} {p k:Nat} {y x:HRw} (hx:xs[k]? = some x) (hne:k≠p):stN xs p y (k+1)=stN xs p y k ++ [x]:=by
  have hk:k<xs.length:=(List.getElem?_eq_some_iff.1 hx).1;unfold stN
  by_cases c:k<p
  · rw [if_pos (by omega),if_pos (by omega)];exact take_next hx
  · have e1:¬(k+1≤p):=by omega
    have e2:¬(k≤p):=(by omega);simp only [e1,e2,if_false];rw [take_next hx,List.drop_append_of_le_length (by simp;omega)];simp
theorem stN_len {xs:List HRw} {p k:Nat} {y:HRw}:(stN xs p y k).length≤k+1:=by
  unfold stN;split
  · have:=List.length_take_le k xs;omega
  · have h1:=List.length_take_le k xs;have h2:=List.length_take_le p xs;simp;omega
def SeN (f:Bool) (B:Nat) (xs:List HRw) (p:Nat) (y:HRw) (w:World) (e:Ending) (w':World):Prop:=e=.returned (.tuple #[])∧∃v u,Below w.heap.size w u∧w'=u.setCell ⟨B,3,none⟩ v∧u.ownsRow w.heap.size 173 2 v (skH f p y xs).length (hbRw (skH f p y xs))
set_option maxHeartbeats 8000000 in
theorem l6SetN_any (B:Nat) (xs:List HRw) (y:HRw) (p q:Nat) (ra:Option Addr) (rc:Nat) (w:World) (hq:xs.length=q) (hle:q≤32) (c3:w.cell? ⟨B,3,none⟩=some (.slice ra q rc)) (f3:w.frozen? ⟨B,3,none⟩=false) (hat:HAtRw w ra xs) (hpq:p≤q) (hlo:∀i x,xs[i]? = some x→i<p→x.t.key<y.t.key) (hhi:∀i x,xs[i]? = some x→p≤i→y.t.key<x.t.key) (hn0:y.t.n≠0) :
    Calls Tryz.prog 115 #[.pointer (some ⟨B,0,none⟩),.int .i64 y.t.key,.slice y.A y.t.n y.c] w (SeN false B xs p y w):=by
  have hBl:B<w.heap.size:=Go.block_lt_of_cell c3;have HC3:Hid (w.cell? ⟨B,3,none⟩=some (.slice ra q rc)):=c3;have HF3:Hid (w.frozen? ⟨B,3,none⟩=false):=f3;have HX:Hid (HAtRw w ra xs):=hat;have HQ:Hid (xs.length=q):=hq;have HLO:Hid (∀i x,xs[i]? = some x→i<p→x.t.key<y.t.key):=hlo;have HHI:Hid (∀i x,xs[i]? = some x→p≤i→y.t.key<x.t.key):=hhi;have HI:Hid ((w.alloc (.cells #[] 173)).ownsRow w.heap.size 173 2 (.slice (some ⟨w.heap.size,0,none⟩) 0 0) 0 []):=World.ownsRow_made w #[] 0 (Nat.le_refl _) (by unfold maxLen;omega) rfl;have hd0:((y.t.n:Int) == 0)=false:=(by simp [hn0]);clear c3 f3 hat hq hlo hhi hn0;go_enter Tryz.func115,Tryz.ntmps115;go_wp2_with fail;go_loopw [6,7,8] (fun v d i wr=>∃k:Nat,k≤q∧i=.int .i64 k∧Hid (d=.bool (decide (p<k)))∧∃m,Hid ((stN xs p y k).length=m)∧Hid (Below w.heap.size w wr)∧Hid (wr.ownsRow w.heap.size 173 2 v m (hbRw (stN xs p y k)))) (fun _ _ i _=>q-(Go.RowKit.intOf i).toNat)
  case atStart=>exact ⟨0,Nat.zero_le _,rfl,by rw [Hid];simp,0,by simp [Hid,stN],below_new _ _,by rw [Hid,show stN xs p y 0=[] by simp [stN]];exact HI.out⟩
  case round=>
    clear HI hd0;obtain ⟨k,hk,rfl,HD,m,HM,HB,HO⟩:=hrel;have hsz:=HB.out.size;have hm9:m≤33:=(by have h9:=stN_len (xs:=xs) (p:=p) (k:=k) (y:=y);rw [HM.out] at h9;omega);have c3:=cell_below HC3.out HB.out
    by_cases hlt:k<q
    · have hlt':(k:Int)<(q:Int):=by omega
      have hk0:(0:Int)≤(k:Int):=(by omega);obtain ⟨x,hx⟩:∃x,xs[k]? = some x:=⟨_,List.getElem?_eq_getElem (by rw [HQ.out];exact hlt)⟩
      rcases HX.out.below HB.out with h | ⟨b,off,rfl,hl,hcc⟩
      · rw [h] at hx;simp at hx
      obtain ⟨z0,z1⟩:=hcc k x hx;clear hcc
      by_cases hkp:k=p
      · subst hkp;have hgt:y.t.key<x.t.key:=HHI.out k x hx (Nat.le_refl _);have heq:(x.t.key == y.t.key)=false:=(by simp;omega);have HSTT:Hid (stN xs k y (k+1)=(stN xs k y k ++ [y]) ++ [x]):=stN_at hx;have HDN:Hid (.bool true=(.bool (decide (k<k+1)):Value)):=(by simp [Hid]);have HXX:Hid (xs[k]? = some x):=hx;obtain ⟨L1,hL1⟩:∃l,l=stN xs k y k ++ [y]:=⟨_,rfl⟩;rw [←hL1] at HSTT;have HST:Hid (L1=stN xs k y k ++ [y]):=hL1;clear hL1;have hD:=HD.out;rw [show decide (k<k)=false by simp] at hD;subst hD;clear HD hx;have HOA:Hid (∀o1:Obj,(wr.alloc o1).ownsRow w.heap.size 173 2 _ m (hbRw (stN xs k y k))):=fun o1=>own_belowI HO.out (below_new _ _)
        have HBX:Hid (∀o:Obj,o=.cells #[.int .i64 y.t.key,.slice y.A y.t.n y.c] 173→CRw (wr.alloc o) wr.heap.size 0 y.t y.A y.c):=by
          rintro o rfl;simp [CRw,go_sem]
        have HBA:Hid (∀o1:Obj,Below w.heap.size w (wr.alloc o1)):=fun o1=>below_then HB.out (below_new _ _);clear HO HB;go_wp2_with (first | (at_builtin;refine wpList_appHRw _ rfl (.tmp 36) (.tmp 40) rfl w.heap.size _ m (stN xs k y k) HM.out rfl (HOA.out _) wr.heap.size 1 y rfl (HBX.out _ rfl) (by simp;omega) (by omega) ?_));intro v2 w3 ho3 hg3;have HO3:Hid (w3.ownsRow w.heap.size 173 2 v2 (m+1) (hbRw L1)):=(by rw [Hid,HST.out];exact ho3);have HM3:Hid ((L1).length=m+1):=(by rw [Hid,HST.out];simp [HM.out]);have HB3:Hid (Below w.heap.size w w3):=(HBA.out (.cells #[.int .i64 y.t.key,.slice y.A y.t.n y.c] 173)).grown hg3 (by simp;omega) fun q9 hq9=>((HOA.out (.cells #[.int .i64 y.t.key,.slice y.A y.t.n y.c] 173)).lt q9 hq9).1;clear ho3 hg3 HOA HBX HBA;have hsz3:=HB3.out.size
        rcases HX.out.below HB3.out with h9 | ⟨b9,off9,e9,hl9,hcc9⟩
        · have:=HXX.out;rw [h9] at this;simp at this
        cases e9;obtain ⟨y0,y1⟩:=hcc9 k x HXX.out;have c39:=cell_below HC3.out HB3.out;have HO:=HO3;have HB:=HB3;have HM:=HM3;have HST:Hid (stN xs k y (k+1)=L1 ++ [x]):=HSTT.out;clear hcc9 HXX HSTT HO3 HB3 HM3 z0 z1 c3;generalize hm1:m+1=m1 at *;have hm33:m1≤34:=(by omega);clear hm9 hm1;have HOA:Hid (∀o1:Obj,(w3.alloc o1).ownsRow w.heap.size 173 2 _ m1 (hbRw L1)):=fun o1=>own_belowI HO.out (below_new _ _)
        have HBX:Hid (∀o:Obj,o=.cells #[.int .i64 x.t.key,.slice x.A x.t.n x.c] 173→CRw (w3.alloc o) w3.heap.size 0 x.t x.A x.c):=by
          rintro o rfl;simp [CRw,go_sem]
        have HBA:Hid (∀o1:Obj,Below w.heap.size w (w3.alloc o1)):=fun o1=>below_then HB.out (below_new _ _);clear HO HB;go_wp2_with (first | (at_builtin;refine wpList_appHRw _ rfl (.tmp 60) (.tmp 68) rfl w.heap.size _ m1 L1 HM.out rfl (HOA.out _) w3.heap.size 1 x rfl (HBX.out _ rfl) (by simp;omega) (by omega) ?_));intro v2 w5 ho3 hg3;have HO3:Hid (w5.ownsRow w.heap.size 173 2 v2 (m1+1) (hbRw (stN xs k y (k+1)))):=(by rw [Hid,HST.out];exact ho3);have HM3:Hid (((stN xs k y (k+1))).length=m1+1):=(by rw [Hid,HST.out];simp [HM.out]);have HB3:Hid (Below w.heap.size w w5):=(HBA.out (.cells #[.int .i64 x.t.key,.slice x.A x.t.n x.c] 173)).grown hg3 (by simp;omega) fun q9 hq9=>((HOA.out (.cells #[.int .i64 x.t.key,.slice x.A x.t.n x.c] 173)).lt q9 hq9).1;clear ho3 hg3 HOA HBX HBA;go_wp2_with fail;go_roundw
        case rel=>exact ⟨k+1,hlt,by go_num,HDN,_,HM3,HB3,HO3⟩
        case measure=>simp [Go.RowKit.intOf];omega
      · have hne:x.t.key≠y.t.key:=by
          rcases Nat.lt_or_ge k p with c | c
          · have:=HLO.out k x hx c;omega
          · have:=HHI.out k x hx c;omega
        have heq:(x.t.key == y.t.key)=false:=(by simp [hne]);have HST:Hid (stN xs p y (k+1)=stN xs p y k ++ [x]):=stN_other hx hkp;have hdn:decide (p<k)=decide (p<k+1):=(by simp only [decide_eq_decide];omega);have HDN:Hid (.bool (decide (p<k))=(.bool (decide (p<k+1)):Value)):=(by rw [Hid,hdn])
        by_cases hd:p<k
        · have hD:=HD.out;rw [show decide (p<k)=true by simp [hd]] at hD HDN;subst hD;clear hd HD hx hne hdn;have HOA:Hid (∀o1:Obj,(wr.alloc o1).ownsRow w.heap.size 173 2 _ m (hbRw (stN xs p y k))):=fun o1=>own_belowI HO.out (below_new _ _)
          have HBX:Hid (∀o:Obj,o=.cells #[.int .i64 x.t.key,.slice x.A x.t.n x.c] 173→CRw (wr.alloc o) wr.heap.size 0 x.t x.A x.c):=by
            rintro o rfl;simp [CRw,go_sem]
          have HBA:Hid (∀o1:Obj,Below w.heap.size w (wr.alloc o1)):=fun o1=>below_then HB.out (below_new _ _);clear HO HB;go_wp2_with (first | (at_builtin;refine wpList_appHRw _ rfl (.tmp 60) (.tmp 68) rfl w.heap.size _ m (stN xs p y k) HM.out rfl (HOA.out _) wr.heap.size 1 x rfl (HBX.out _ rfl) (by simp;omega) (by omega) ?_));intro v2 w3 ho3 hg3;have HO3:Hid (w3.ownsRow w.heap.size 173 2 v2 (m+1) (hbRw (stN xs p y (k+1)))):=(by rw [Hid,HST.out];exact ho3);have HM3:Hid (((stN xs p y (k+1))).length=m+1):=(by rw [Hid,HST.out];simp [HM.out]);have HB3:Hid (Below w.heap.size w w3):=(HBA.out (.cells #[.int .i64 x.t.key,.slice x.A x.t.n x.c] 173)).grown hg3 (by simp;omega) fun q9 hq9=>((HOA.out (.cells #[.int .i64 x.t.key,.slice x.A x.t.n x.c] 173)).lt q9 hq9).1;clear ho3 hg3 HOA HBX HBA;go_wp2_with fail;go_roundw
          case rel=>exact ⟨k+1,hlt,by go_num,HDN,_,HM3,HB3,HO3⟩
          case measure=>simp [Go.RowKit.intOf];omega
        · have hgt:¬(y.t.key<x.t.key):=by
            have:=HLO.out k x hx (by omega);omega
          have hD:=HD.out;rw [show decide (p<k)=false by simp;omega] at hD HDN;subst hD;clear hd HD hx hne hdn;have HOA:Hid (∀o1:Obj,(wr.alloc o1).ownsRow w.heap.size 173 2 _ m (hbRw (stN xs p y k))):=fun o1=>own_belowI HO.out (below_new _ _)
          have HBX:Hid (∀o:Obj,o=.cells #[.int .i64 x.t.key,.slice x.A x.t.n x.c] 173→CRw (wr.alloc o) wr.heap.size 0 x.t x.A x.c):=by
            rintro o rfl;simp [CRw,go_sem]
          have HBA:Hid (∀o1:Obj,Below w.heap.size w (wr.alloc o1)):=fun o1=>below_then HB.out (below_new _ _);clear HO HB;go_wp2_with (first | (at_builtin;refine wpList_appHRw _ rfl (.tmp 60) (.tmp 68) rfl w.heap.size _ m (stN xs p y k) HM.out rfl (HOA.out _) wr.heap.size 1 x rfl (HBX.out _ rfl) (by simp;omega) (by omega) ?_));intro v2 w3 ho3 hg3;have HO3:Hid (w3.ownsRow w.heap.size 173 2 v2 (m+1) (hbRw (stN xs p y (k+1)))):=(by rw [Hid,HST.out];exact ho3);have HM3:Hid (((stN xs p y (k+1))).length=m+1):=(by rw [Hid,HST.out];simp [HM.out]);have HB3:Hid (Below w.heap.size w w3):=(HBA.out (.cells #[.int .i64 x.t.key,.slice x.A x.t.n x.c] 173)).grown hg3 (by simp;omega) fun q9 hq9=>((HOA.out (.cells #[.int .i64 x.t.key,.slice x.A x.t.n x.c] 173)).lt q9 hq9).1;clear ho3 hg3 HOA HBX HBA;go_wp2_with fail;go_roundw
          case rel=>exact ⟨k+1,hlt,by go_num,HDN,_,HM3,HB3,HO3⟩
          case measure=>simp [Go.RowKit.intOf];omega
    · have hkn:k=q:=by omega
      have hnl:¬((k:Int)<(q:Int)):=(by omega);have hD:=HD.out
      by_cases hpk:p<k
      · rw [show decide (p<k)=true by simp [hpk]] at hD;subst hD;obtain ⟨va,vc,rfl,-,-⟩:=HAtRw.of_row HM.out HO.out;have hL:stN xs p y k=skH false p y xs:=(by rw [hkn,←HQ.out];exact stN_last (by rw [HQ.out];omega));have hO:=HO.out;rw [hL] at hO;have hMm:=HM.out;rw [hL] at hMm;have HF:Hid (SeN false B xs p y w (.returned (.tuple #[])) (wr.setCell ⟨B,3,none⟩ (.slice va m vc))):=⟨rfl,_,wr,HB.out,rfl,by rw [hMm];exact hO⟩;have f3:wr.frozen? ⟨B,3,none⟩=false:=(World.frozen?_of_block (w:=w) (a:=⟨B,3,none⟩) (HB.out.block B hBl)).trans HF3.out;clear hpk HD hkn hL hO hMm HO HM;go_wp2_with fail;go_end0;exact HF.out
      · rw [show decide (p<k)=false by simp;omega] at hD;subst hD;have hpk2:p=k:=(by omega)
        have HST:Hid (skH false p y xs=stN xs p y k ++ [y]):=by
          have hql:xs.length=k:=(by rw [HQ.out];exact hkn.symm);have h9:=stN_all (xs:=xs) (y:=y);rw [hql] at h9;rw [Hid,hpk2];exact h9.symm
        have f3:wr.frozen? ⟨B,3,none⟩=false:=(World.frozen?_of_block (w:=w) (a:=⟨B,3,none⟩) (HB.out.block B hBl)).trans HF3.out;have HBW:Hid (Below w.heap.size w wr):=HB;have HCW:Hid (wr.cell? ⟨B,3,none⟩=some (.slice ra q rc)∧wr.frozen? ⟨B,3,none⟩=false):=⟨c3,f3⟩;clear hpk hpk2 HD hkn;have HOA:Hid (∀o1:Obj,(wr.alloc o1).ownsRow w.heap.size 173 2 _ m (hbRw (stN xs p y k))):=fun o1=>own_belowI HO.out (below_new _ _)
        have HBX:Hid (∀o:Obj,o=.cells #[.int .i64 y.t.key,.slice y.A y.t.n y.c] 173→CRw (wr.alloc o) wr.heap.size 0 y.t y.A y.c):=by
          rintro o rfl;simp [CRw,go_sem]
        have HBA:Hid (∀o1:Obj,Below w.heap.size w (wr.alloc o1)):=fun o1=>below_then HB.out (below_new _ _);clear HO HB;go_wp2_with (first | (at_builtin;refine wpList_appHRw _ rfl (.tmp 72) (.tmp 76) rfl w.heap.size _ m (stN xs p y k) HM.out rfl (HOA.out _) wr.heap.size 1 y rfl (HBX.out _ rfl) (by simp;omega) (by omega) ?_));intro v2 w3 ho3 hg3;have HO3:Hid (w3.ownsRow w.heap.size 173 2 v2 (m+1) (hbRw (skH false p y xs))):=(by rw [Hid,HST.out];exact ho3);have HM3:Hid (((skH false p y xs)).length=m+1):=(by rw [Hid,HST.out];simp [HM.out]);have HB3:Hid (Below w.heap.size w w3):=(HBA.out (.cells #[.int .i64 y.t.key,.slice y.A y.t.n y.c] 173)).grown hg3 (by simp;omega) fun q9 hq9=>((HOA.out (.cells #[.int .i64 y.t.key,.slice y.A y.t.n y.c] 173)).lt q9 hq9).1;clear ho3 hg3 HOA HBX HBA;have f3':w3.frozen? ⟨B,3,none⟩=false:=(World.frozen?_of_block (w:=w) (a:=⟨B,3,none⟩) (HB3.out.block B hBl)).trans HF3.out;have c3':=cell_below HC3.out HB3.out;obtain ⟨va,vc,rfl,-,-⟩:=HAtRw.of_row HM3.out HO3.out;have HF:Hid (SeN false B xs p y w (.returned (.tuple #[])) (w3.setCell ⟨B,3,none⟩ (.slice va (m+1) vc))):=⟨rfl,_,w3,HB3.out,rfl,by rw [HM3.out];exact HO3.out⟩;clear HO3 HM3 HB3 f3 c3 HCW HBW;go_wp2_with fail;go_end0;exact HF.out
def PAnc (m:Nat) (S:Nat→Vr) (w:World) (e:Ending) (w':World):Prop:=∃a cap,e=.returned (.tuple #[.slice a m cap,.int .i64 0])∧m≤cap∧Below w.heap.size w w'∧Own4 w' (w.heap.size+1) w'.heap.size a m S
set_option maxHeartbeats 2000000 in
theorem l5Push_ownc (n:Nat) (R:Nat→Vr) (a:Option Addr) (cap:Nat) (o:Int) (g:Bool) (v:Int) (w:World) (hn:n≤12) (hp:0<n) (hw:wrt n R=o) (h:VersAt w a n R) :
    Calls Tryz.prog 114 #[.slice a n cap,.int .i64 o,.bool g,.int .i64 v] w (PAnc n (pxA R ⟨o,0,g,v⟩) w):=by
  have HA:Hid (VersAt w a n R):=h;clear h;go_enter Tryz.func114,Tryz.ntmps114;go_wp2_with fail;refine (l5Writer_any n R a cap _ (HA.out.below (below_new _ _))).mono ?_;rintro e w1 ⟨rfl,hw1⟩;rw [hw];have hBX:C4 w1 w.heap.size 0 ⟨o,0,g,v⟩:=(by rw [hw1];exact box_v w ⟨o,0,g,v⟩ 179);have HB1:Hid (Below w.heap.size w w1):=(by rw [hw1];exact below_new _ _);have hs1:w1.heap.size=w.heap.size+1:=(by rw [hw1];simp);clear hw1 hw;go_wp2_with fail;refine (l5Copy_anyw n R a cap w1 (by omega) (HA.out.below HB1.out)).mono ?_;rintro e w3 ⟨ra,rc,rfl,hb3,ho3,hcap⟩;obtain ⟨ob,oo,rfl,hlo,hhi,hsz,hrow⟩:=own4_some ho3 hp;obtain ⟨d0,d1,d2,d3⟩:=hBX.below hb3;simp only [Nat.zero_add] at d0 d1 d2 d3;obtain ⟨y0,y1,y2,y3⟩:=hrow.1 0 hp;rw [Nat.zero_mul,Nat.add_zero] at y0 y1 y2 y3;have yf:=hrow.2;have hp':(0:Int)<(n:Int):=(by omega)
  have HF:Hid (PAnc n (pxA R ⟨o,0,g,v⟩) w (.returned (.tuple #[.slice (some ⟨ob,oo,none⟩) n rc,.int .i64 0])) (set4 w3 ob oo ⟨o,0,g,v⟩)):=by
    have hr:=row4_set (r:=⟨o,0,g,v⟩) hp hrow;rw [Nat.zero_mul,Nat.add_zero] at hr;refine ⟨_,rc,rfl,hcap,set4_below (below_then HB1.out hb3) (by omega),Nat.le_refl _,.inr ⟨ob,oo,rfl,by omega,by rw [set4_size];omega,row4_congr hr (fun i _=>rfl)⟩⟩
  clear hb3 ho3 hrow HB1 HA;generalize R 0=r0 at *;go_wp2_with fail;go_ret2;exact HF.out
set_option maxHeartbeats 2000000 in
theorem l5Push_newc (n:Nat) (R:Nat→Vr) (a:Option Addr) (cap:Nat) (o:Int) (g:Bool) (v:Int) (w:World) (hn:n<12) (hw:wrt n R≠o) (h:VersAt w a n R) :
    Calls Tryz.prog 114 #[.slice a n cap,.int .i64 o,.bool g,.int .i64 v] w (PAnc (n+1) (pxC R ⟨o,0,g,v⟩) w):=by
  have HA:Hid (VersAt w a n R):=h;have hn1:¬((12:Int)≤(n:Int)):=(by omega);clear h;go_enter Tryz.func114,Tryz.ntmps114;go_wp2_with fail;refine (l5Writer_any n R a cap _ (HA.out.below (below_new _ _))).mono ?_;rintro e w1 ⟨rfl,hw1⟩;have hBX:C4 w1 w.heap.size 0 ⟨o,0,g,v⟩:=(by rw [hw1];exact box_v w ⟨o,0,g,v⟩ 179);have HB1:Hid (Below w.heap.size w w1):=(by rw [hw1];exact below_new _ _);have HS1:Hid (w1.heap.size=w.heap.size+1):=(by show w1.heap.size=w.heap.size+1;rw [hw1];simp);clear hw1;generalize wrt n R=z at *;have hz:(z == o)=false:=(by simp [hw]);obtain ⟨d0,d1,d2,d3⟩:=hBX;simp only [Nat.zero_add] at d0 d1 d2 d3;have HO:Hid (((w1.alloc (.cells #[.int .i64 o,.int .i64 0,.bool g,.int .i64 v] 179))).ownsRow w1.heap.size 179 4 (.slice (some ⟨w1.heap.size,0,none⟩) 1 1) [(⟨o,0,g,v⟩:Vr)].length (vb [(⟨o,0,g,v⟩:Vr)])):=World.ownsRow_lit w1 #[.int .i64 o,.int .i64 0,.bool g,.int .i64 v] 1 (Nat.le_refl _) (by unfold maxLen;omega) rfl;have HA1:Hid (VersAt (w1.alloc (.cells #[.int .i64 o,.int .i64 0,.bool g,.int .i64 v] 179)) a n R):=(HA.out.below HB1.out).below (below_new _ _);go_wp2_with (at_builtin;refine wpList_appV _ rfl (.tmp 31) (.tmp 32) rfl w1.heap.size _ [(⟨o,0,g,v⟩:Vr)] rfl HO.out a n cap R rfl HA1.out (by simp;omega) (by simp) ?_);intro v1 w3 ho1 hg1;have HB3:Hid (Below w.heap.size w w3):=below_then HB1.out ((below_new w1 _).grown hg1 (by simp) (fun q hq=>(HO.out.lt q hq).1))
  have HF:Hid (PAnc (n+1) (pxC R ⟨o,0,g,v⟩) w (.returned (.tuple #[v1,.int .i64 0])) w3):=by
    have el:((⟨o,0,g,v⟩:Vr) :: vL R n).length=n+1:=(by simp [vL_len]);rw [vL_len] at ho1;obtain ⟨rb,rd,rfl,hcap⟩:=sha_of_row ho1;have h4:=own4_of_row el ho1;rw [HS1.out] at h4;refine ⟨rb,rd,rfl,by have:=hcap.1;simp at this ⊢;omega,HB3.out,h4.congr (fun i hi=>?_)⟩
    by_cases e:i=0
    · subst e;rfl
    · obtain ⟨j,rfl⟩:∃j,i=j+1:=⟨i-1,by omega⟩;show ((⟨o,0,g,v⟩:Vr) :: vL R n).getD (j+1) zV=pxC R ⟨o,0,g,v⟩ (j+1);rw [List.getD_eq_getElem?_getD];simp [pxC,vL_get (R:=R) (show j<n by omega)]
  clear ho1 hg1;go_wp2_with fail;go_ret2;exact HF.out
theorem pl_N {R:Nat→Rw} {key:Int}:∀{q:Nat},(∀j,j<q→∀i,i<j→(R i).key<(R j).key)→Pl q R key (plN R key q)
  | 0,_=>⟨Nat.le_refl _,fun x hx=>by simp [plN] at hx,fun x _ hx=>by omega⟩
  | q+1,hs=>by
    have ih:=pl_N (R:=R) (key:=key) (q:=q) fun j hj i hi=>hs j (by omega) i hi;rw [plN]
    by_cases hk:(R q).key<key
    · rw [if_pos hk];refine ⟨Nat.le_refl _,fun x hx=>?_,fun x h1 h2=>by omega⟩
      by_cases e:x=q
      · rw [e];exact hk
      · have:=hs q (Nat.lt_succ_self q) x (by omega);omega
    · rw [if_neg hk];refine ⟨by have:=ih.1;omega,ih.2.1,fun x h1 h2=>?_⟩
      by_cases e:x=q
      · rw [e];omega
      · exact ih.2.2 x h1 (by omega)
theorem wrt_fob {n:Nat} {R:Nat→Vr} {id:Int} (h:id≠0):(wrt n R=id↔fob n R id=true):=by
  unfold wrt fob;simp only [Bool.and_eq_true,decide_eq_true_eq,beq_iff_eq];constructor
  · intro e;split at e
    · rename_i h1;exact ⟨h1.1,e,h1.2⟩
    · exact absurd e.symm h
  · rintro ⟨h1,h2,h3⟩;rw [if_pos ⟨h1,h3⟩];exact h2
def wrG (E:En) (j:Nat) (key:Int) (m:Nat) (S:Nat→Vr):En:=
  ⟨E.nx,E.ck,E.p,upf E.T j ⟨(E.T j).id,(E.T j).am,(E.T j).st,(E.T j).dn,(E.T j).n+1,upf (E.T j).U (E.T j).n (uoF (ckN E key) (ckU E key) (E.T j).id key)⟩,(wrL E key m S).length,fun x=>(wrL E key m S).getD x zRw⟩
def wwC (E:En) (j:Nat) (key:Int):Int:=if mayB (ckN E key) (ckU E key) (E.T j).am (E.T j).id=true then (if (E.T j).n=60 then 2 else (if fob (ckN E key) (ckU E key) (E.T j).id=true then 0 else (if ckN E key=12 then 2 else 0))) else 9
def wwN (E:En) (j:Nat) (key:Int):Nat:=if fob (ckN E key) (ckU E key) (E.T j).id=true then ckN E key else ckN E key+1
def wwS (E:En) (j:Nat) (key:Int) (g:Bool) (v:Int):Nat→Vr:=if fob (ckN E key) (ckU E key) (E.T j).id=true then pxA (ckU E key) ⟨(E.T j).id,0,g,v⟩ else pxC (ckU E key) ⟨(E.T j).id,0,g,v⟩
def wwE (E:En) (j:Nat) (key:Int) (g:Bool) (v:Int):En:=if wwC E j key=0 then wrG E j key (wwN E j key) (wwS E j key g v) else zEn
theorem map_wrL {E:En} {key:Int} {m:Nat} {S:Nat→Vr} {xs:List HRw} {y:HRw} (hx:xs.map HRw.t=rwL E) (hy:y.t=⟨key,m,S⟩):(skH (plF E.q E.R key (plN E.R key E.q)) (plN E.R key E.q) y xs).map HRw.t=wrL E key m S:=by
  rw [skH_t,hx,hy];rfl
theorem write_end {E:En} {j:Nat} {key:Int} {m:Nat} {S:Nat→Vr} {W8 u w9:World} {N0 B b0' M N2 lo hi ug N5 tb:Nat} {xs:List HRw} {y:HRw} {f:Bool} {ra:Option Addr} {rc q2:Nat} {T':Nat→Tx}
    (hxs:xs.map HRw.t=rwL E) (hf:f=plF E.q E.R key (plN E.R key E.q)) (hyt:y.t=⟨key,m,S⟩) (hyl:y.l=lo) (hyh:y.h=hi) (hyc:m≤y.c) (hax:ApRw xs) (hct:∀x ∈ xs,CtRw W8 M N2 x) (hyo:Own4 W8 lo hi y.A m S)
    (hb:N0≤b0') (hbM:b0'≤M) (hMN:M≤N2) (hB:B=N2) (hN5:N2<lo) (hhi:hi≤N5) (hN25:N2<N5) (hug:ug<M∨ug=N5) (hug8:ug<W8.heap.size) (hug0:b0'≤ug)
    (hT:OwnTxP W8 (fun x=>(b0'≤x∧x<M)∨(M≤ug∧ug≤x∧x<ug+1)) (some ⟨tb,0,none⟩) E.p T')
    (hbu:Below W8.heap.size W8 u) (hw9:w9=u.setCell ⟨B,3,none⟩ (.slice ra q2 rc)) (hl:(skH f (plN E.R key E.q) y xs).length=q2) (ho:u.ownsRow W8.heap.size 173 2 (.slice ra q2 rc) q2 (hbRw (skH f (plN E.R key E.q) y xs))) (hBc:B<W8.heap.size) :
    q2=(wrL E key m S).length∧∃P Q:Nat→Prop,(∀x,P x→N0≤x∧x<w9.heap.size)∧(∀x,Q x→N0≤x∧x<w9.heap.size)∧(∀x,P x→¬Q x)∧OwnTxP w9 P (some ⟨tb,0,none⟩) E.p T'∧OwnRwP w9 Q ra q2 (fun x=>(wrL E key m S).getD x zRw):=by
  have hz9:w9.heap.size=u.heap.size:=(by rw [hw9];simp [World.setCell]);have hw:Writes B (B+1) u w9:=(by rw [hw9];exact Writes.setCell (Writes.refl _ _ _) (p:=⟨B,3,none⟩) (Nat.le_refl _) (Nat.lt_succ_self _) _);have hzu:=hbu.size;have hml:(skH f (plN E.R key E.q) y xs).map HRw.t=wrL E key m S:=(by rw [hf];exact map_wrL hxs hyt);have hq:q2=(wrL E key m S).length:=(by rw [←hl,←hml,List.length_map])
  have hT9:OwnTxP w9 (fun x=>(b0'≤x∧x<M)∨(M≤ug∧ug≤x∧x<ug+1)) (some ⟨tb,0,none⟩) E.p T':=by
    refine OwnTxP.keep hT (by omega) fun x hx hl2=>?_;refine (hw.block x (by omega) ?_).trans (hbu.block x hl2);omega
  refine ⟨hq,fun x=>(b0'≤x∧x<M)∨(M≤ug∧ug≤x∧x<ug+1),fun x=>(M≤x∧x<N2)∨(lo≤x∧x<hi)∨(W8.heap.size≤x∧x<w9.heap.size),fun x hx=>by omega,fun x hx=>?_,fun x h1 h2=>by omega,hT9,?_⟩
  · have:=hyo.1;omega
  · have hap:ApRw (skH f (plN E.R key E.q) y xs):=skH_ap hax fun x hx=>by
      have:=(hct x hx).1;rw [hyl,hyh];omega
    rcases ho.2 with ⟨e9,h9⟩ | ⟨g,cg,cur,e9,k1,k2,k3,k4⟩
    · exact .inl h9
    · simp only [Value.slice.injEq] at e9;obtain ⟨rfl,_,rfl⟩:=e9;obtain ⟨a8,c8,e8,-,hat⟩:=HAtRw.of_row hl ho;simp only [Value.slice.injEq] at e8;obtain ⟨rfl,_,rfl⟩:=e8;have hgu:g<u.heap.size:=(Array.getElem?_eq_some_iff.1 k2).1;rw [←hml,←hl];refine OwnRwP.ofList (.inr (.inr ⟨k1,by omega⟩)) (by omega) (fun i=>?_) hap (fun i x hx=>?_) (fun x hx=>?_)
      · rw [hw9,World.frozen?_setCell];exact ho.frozenAt _
      · rcases hat with h8 | ⟨b,off,e7,hbl,hc⟩
        · rw [h8] at hx;simp at hx
        · cases e7;have:=hc i x hx;rw [Nat.zero_add] at this;exact this.block (hw.block g hgu (by omega))
      · rcases skH_mem hx with rfl | hx
        · refine ⟨by have:=hyo.1;omega,by rw [hyt];exact hyc,?_,fun z h1 h2=>.inr (.inl (by omega))⟩;have h7:=(hyo.below hbu).writes hw (by omega);rw [hyl,hyh,hyt];exact h7
        · obtain ⟨m1,m2,m3⟩:=hct x hx;exact ⟨by omega,m2,(m3.below hbu).writes hw (by omega),fun z h1 h2=>.inl (by omega)⟩
end Go.Proofs.YtjdodbiphijjgaaGreat
