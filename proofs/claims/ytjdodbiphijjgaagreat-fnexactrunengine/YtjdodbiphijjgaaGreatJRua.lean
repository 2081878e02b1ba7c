import Derived.Test.YtjdodbiphijjgaaGreatJDoc
import Derived.Test.YtjdodbiphijjgaaGreatJRrb
import Derived.Test.YtjdodbiphijjgaaGreatJDof
import Derived.Test.YtjdodbiphijjgaaGreatJDoe
namespace Go.Proofs.YtjdodbiphijjgaaGreat
open Go.RowKit Go.Deep
set_option linter.unusedVariables false
set_option linter.unusedSimpArgs false
set_option maxRecDepth 20000
open Go.ChangeShapes Go.WideShapes Go.ChangeAt Go.RowKit Go.Deep Go.Joins
open Go.RowKit Go.Deep Go.Shelf
theorem cff_okR {K V:Nat→Int}:∀m i,cff K V m i=0→∀j,i≤j→j<i+m→inB (K j) 0 31=true∧inB (V j) 0 9999=true∧(0<j→K (j-1)<K j)
  | 0,i,_,j,h1,h2=>by omega
  | m+1,i,h,j,h1,h2=>by
    unfold cff at h
    by_cases hb:inB (K i) 0 31=false∨inB (V i) 0 9999=false
    · rw [if_pos hb] at h;cases h
    · rw [if_neg hb] at h
      by_cases hc:0<i∧K i≤K (i-1)
      · rw [if_pos hc] at h;cases h
      · rw [if_neg hc] at h
        by_cases e:j=i
        · subst e;refine ⟨?_,?_,fun h0=>?_⟩
          · cases hk:inB (K j) 0 31 with
            | true=>rfl
            | false=>exact absurd (Or.inl hk) hb
          · cases hk:inB (V j) 0 9999 with
            | true=>rfl
            | false=>exact absurd (Or.inr hk) hb
          · exact Int.not_le.1 fun hle=>hc ⟨h0,hle⟩
        · exact cff_okR m (i+1) h j (by omega) (by omega)
theorem riseK {K:Nat→Int} {n:Nat} (h:∀j,j<n→0<j→K (j-1)<K j):∀b,b<n→∀a,a<b→K a<K b
  | 0,_,a,h1=>by omega
  | b+1,hb,a,h1=>by
    have h2:=h (b+1) hb (by omega);rw [Nat.add_sub_cancel] at h2
    by_cases e:a=b
    · rw [e];exact h2
    · have:=riseK h b (by omega) a (by omega);omega
theorem eF_ne {n:Nat} {K V:Nat→Int} (h:neC n K V=0):eF (neE n K V)=0:=by
  unfold neC at h
  by_cases h20:20<n
  · rw [if_pos h20] at h;cases h
  rw [if_neg h20] at h;have hk:∀j,j<n→inB (K j) 0 31=true∧inB (V j) 0 9999=true∧(0<j→K (j-1)<K j):=fun j hj=>cff_okR n 0 h j (Nat.zero_le _) (by omega);have hr:=riseK fun j hj=>(hk j hj).2.2;refine Gd_eF ⟨⟨by show (1:Int)≤2;omega,by show (2:Int)≤999;omega⟩,?_,by show 0≤20;omega,fun i hi=>by simp [neE] at hi,fun r hm=>?_,?_,⟨fun r hm h0=>?_,fun i hi=>by simp [neE] at hi⟩⟩
  · show (0:Int)≤(if n=0 then 0 else 1)∧(if n=0 then (0:Int) else 1)≤1000000
    split <;> omega
  · obtain ⟨i,hi,rfl⟩:=mem_rwL.1 hm;have hi':i<n:=hi;obtain ⟨k1,k2,-⟩:=hk i hi';have hv:=inB_iff.1 k2;refine ⟨k1,Nat.one_pos,chF_of (show 1≤12 by omega) fun j hj=>?_,?_,fun h1=>?_⟩
    · have hj0:j=0:=by have:j<1:=hj;omega
      subst hj0;exact ⟨vR_lit (by omega) (by omega) hv,by simp [vF,neE,rnE]⟩
    · show (1:Int)≤(if n=0 then 0 else 1);rw [if_neg (by omega)];omega
    · exact absurd h1 (by show ¬1<1;omega)
  · refine List.pairwise_map.2 (List.pairwise_iff_getElem.2 fun a b ha hb hab=>?_);simp only [List.getElem_range];have hb':b<n:=(by simpa [neE] using hb);exact hr b hb' a hab
  · obtain ⟨i,hi,rfl⟩:=mem_rwL.1 hm;exact absurd h0 (by show ¬(1:Int)=0;omega)
def dkA (r:Ac):Dk:=⟨r.k,r.t,r.y,r.o⟩
def egN (E:En) (A:Nat→Ac):Nat→En
  | 0=>E
  | k+1=>dnE (egN E A k) (dkA (A k))
def rpA (E:En) (A:Nat→Ac) (k:Nat):Rp:=⟨dnC (egN E A k) (dkA (A k)),dnW (egN E A k) (dkA (A k)),(dnL (egN E A k) (dkA (A k))).length,kC (dnL (egN E A k) (dkA (A k))),vC (dnL (egN E A k) (dkA (A k)))⟩
theorem eF_eg {E:En} {A:Nat→Ac} (h:eF E=0):∀k,eF (egN E A k)=0
  | 0=>h
  | k+1=>eF_dn (eF_eg h k) _
theorem few_small {E:En} (h:eF E=0):SmallE E:=by
  have hf:=eF_few h;exact small_fewW hf.1 (by omega) hf.2.2.1 (fun i hi=>by have:=hf.2.2.2 i hi;omega)
theorem dn_len {E:En} (r:Dk):(dnL E r).length≤32:=by
  unfold dnL;split
  · rename_i h;have h1:=scL_len E.q E.R (E.T (askP E r.t).toNat).am (E.T (askP E r.t).toNat).id 0 31 E.q;have h2:=(eF_pq (ask_open h.2).1).2;unfold skQ;omega
  · simp
theorem dn_no {E:En} {r:Dk} (h:inB r.k 1 7=false):dnC E r=3∧dnW E r=0∧dnL E r=[]∧dnE E r=E:=by
  have hk:¬(1≤r.k∧r.k≤7):=fun e=>by rw [inB_iff.2 e] at h;cases h
  have hc:dnC E r=3:=by
    unfold dnC;rw [if_neg (by omega),if_neg (by omega),if_neg (by omega),if_neg (by omega),if_neg (by omega),if_neg (by omega),if_neg (by omega)]
  refine ⟨hc,?_,?_,?_⟩
  · unfold dnW;rw [if_neg (by omega),hc];rfl
  · unfold dnL;exact if_neg fun e=>hk (by omega)
  · unfold dnE;rw [hc];rfl
def reC (n:Nat) (K V:Nat→Int) (m:Nat):Int:=if neC n K V=0 then (if 100<m then 2 else 0) else neC n K V
def reN (n:Nat) (K V:Nat→Int) (m:Nat):Nat:=if reC n K V m=0 then m else 0
def OwnRr (w:World) (lo hi:Nat) (a:Option Addr) (k:Nat) (T:Nat→Rp):Prop:=hi≤w.heap.size∧OwnRpP w (fun x=>lo≤x∧x<hi) a k T
theorem OwnRr.at {w:World} {lo hi:Nat} {a:Option Addr} {k:Nat} {T:Nat→Rp} (h:OwnRr w lo hi a k T):RpsAt w a k T:=h.2.at
theorem OwnRr.writes {w w':World} {lo hi l1 h1:Nat} {a:Option Addr} {k:Nat} {T:Nat→Rp} (h:OwnRr w lo hi a k T) (hw:Writes l1 h1 w w') (hd:hi≤l1∨h1≤lo):OwnRr w' lo hi a k T:=
  ⟨Nat.le_trans h.1 hw.size,h.2.keep hw.size fun x hx h2=>hw.block x h2 (by omega)⟩
theorem OwnRr.below {w w':World} {lo hi:Nat} {a:Option Addr} {k:Nat} {T:Nat→Rp} (h:OwnRr w lo hi a k T) (hb:Below w.heap.size w w'):OwnRr w' lo hi a k T:=
  h.writes (Writes.of_below (lo:=hi) (hi:=hi) hb) (.inl (Nat.le_refl _))
theorem OwnRr.wide {w:World} {lo hi lo' hi':Nat} {a:Option Addr} {k:Nat} {T:Nat→Rp} (h:OwnRr w lo hi a k T) (h1:lo'≤lo) (h2:hi≤hi') (h3:hi'≤w.heap.size):OwnRr w lo' hi' a k T:=
  ⟨h3,h.2.mono fun x hx=>⟨Nat.le_trans h1 hx.1,Nat.lt_of_lt_of_le hx.2 h2⟩⟩
def ResR (c:Int) (k:Nat) (T:Nat→Rp) (w:World) (e:Ending) (w':World):Prop:=
  ∃a ca,e=.returned (.agg #[.int .i64 c,.slice a k ca])∧Below w.heap.size w w'∧OwnRr w' w.heap.size w'.heap.size a k T
theorem resr_bad {c:Int} {T:Nat→Rp} {w w':World} (hb:Below w.heap.size w w'):ResR c 0 T w (.returned (.agg #[.int .i64 c,.slice none 0 0])) w':=
  ⟨none,0,rfl,hb,Nat.le_refl _,.inl rfl⟩
theorem eqRepliesResult_same (c:Int) (k:Nat) (T:Nat→Rp) (a a':Option Addr) (ca ca':Nat) (w:World) (hk:k≤1048576) (hL:∀i,i<k→SmRp (T i)) (h:RpsAt w a k T) (h':RpsAt w a' k T) :
    Calls Tryz.prog 32 #[.agg #[.int .i64 c,.slice a k ca],.agg #[.int .i64 c,.slice a' k ca']] w fun e w'=>e=.returned (.bool true)∧Below w.heap.size w w':=by
  have hb0:∀o1 o2,Below w.heap.size w ((w.alloc o1).alloc o2):=fun o1 o2=>((Below.refl _ _).alloc (Nat.le_refl _) _).alloc (by simp) _;have HC:Hid (RpsAt w a k T):=h;have HC':Hid (RpsAt w a' k T):=h';have HL:Hid (∀i,i<k→SmRp (T i)):=hL;clear h h' hL;go_enter Tryz.func32,Tryz.ntmps32;go_wp2_with fail;refine (eqReplyS_any k T a a' ca ca' _ hk HL.out (HC.out.below (hb0 _ _)) (HC'.out.below (hb0 _ _))).mono ?_;rintro e w1 ⟨rfl,hb1⟩;go_wp2_with fail;go_ret;exact ⟨rfl,below_then (hb0 _ _) hb1⟩
theorem markRepliesResult_any (c:Int) (k:Nat) (T:Nat→Rp) (a:Option Addr) (ca lo hi:Nat) (w:World) (hk:k≤1048576) (hs:smRp T k≤1048576) (h:OwnRr w lo hi a k T) :
    Calls Tryz.prog 37 #[.agg #[.int .i64 c,.slice a k ca],.int .i64 1] w fun e w'=>e=.returned (.int .i64 (1+sRp T k))∧Writes lo hi w w'∧OwnRr w' lo hi a k (mRp 1 T):=by
  have HO:Hid (OwnRr w lo hi a k T):=h;clear h;go_enter Tryz.func37,Tryz.ntmps37;go_wp2_with fail;refine (markReplyS_P k T a ca (fun x=>lo≤x∧x<hi) 1 _ hk hs (by omega) (by omega) (HO.out.below (below_new _ _)).2).mono ?_;rintro e w1 ⟨rfl,hw,ho⟩;have HW:Hid (Writes lo hi w w1):=(Writes.of_below (below_new _ _)).trans (hw.to fun x hx=>hx);have HO1:Hid (OwnRr w1 lo hi a k (mRp 1 T)):=⟨Nat.le_trans HO.out.1 HW.out.size,ho⟩;clear hw ho;go_wp2_with fail;go_ret;exact ⟨rfl,HW.out,HO1.out⟩
theorem heldRepliesResult_any (c:Int) (k:Nat) (T:Nat→Rp) (a:Option Addr) (ca:Nat) (w:World) (hk:k≤1048576) (hs:smRp T k≤1048576) (h:RpsAt w a k (mRp 1 T)) :
    Calls Tryz.prog 38 #[.agg #[.int .i64 c,.slice a k ca],.int .i64 1] w fun e w'=>e=.returned (.int .i64 (1+sRp T k))∧Below w.heap.size w w':=by
  have HO:Hid (RpsAt w a k (mRp 1 T)):=h;have hneg:¬((1:Int)+(sRp T k:Int)<0):=(by omega);clear h;go_enter Tryz.func38,Tryz.ntmps38;go_wp2_with fail;refine (heldReplyS_any k T a ca 1 _ hk hs (by omega) (by omega) (HO.out.below (below_new _ _))).mono ?_;rintro e w1 ⟨rfl,hw1⟩;obtain rfl:=hw1.symm;go_wp2_with fail;go_ret;exact ⟨rfl,below_new _ _⟩
theorem szActS_x (n:Nat) (a:Option Addr) (cap:Nat) (x:Int) (w:World) (hn:n≤9223372036854775807) (h0:0≤x) (h1:x≤1048576) :
    Calls Tryz.prog 27 #[.slice a n cap,.int .i64 x] w fun e w'=>e=.returned (.int .i64 (if x-n<0 then -1 else x-n))∧w'=w:=by
  by_cases h:x-(n:Int)<0
  · go_enter Tryz.func27,Tryz.ntmps27;go_wp2;go_ret;exact ⟨rfl,rfl⟩
  · go_enter Tryz.func27,Tryz.ntmps27;go_wp2;go_ret;exact ⟨rfl,rfl⟩
theorem rpA_small (E:En) (A:Nat→Ac) (i:Nat):(rpA E A i).cn≤32:=dn_len (E:=egN E A i) (dkA (A i))
theorem reN_le (n:Nat) (K V:Nat→Int) (m:Nat):reN n K V m≤100:=by
  unfold reN;split
  · rename_i h;unfold reC at h;split at h
    · split at h
      · cases h
      · omega
    · rename_i h1;exact absurd h h1
  · omega
theorem smRp_few (T:Nat→Rp) (h:∀i,(T i).cn≤32):∀k,smRp T k≤k*32
  | 0=>Nat.zero_le _
  | k+1=>by
    have h1:=smRp_few T h k;have h2:=h k;have e:smRp T (k+1)=smRp T k+(T k).cn:=rfl;rw [e,Nat.succ_mul];omega
def InK (W:World) (lo hi:Nat) (la:Option Addr) (L:List (Int × Int)) (E:En) (a a':Option Addr) (G:En) (d d':Option Addr) (w:World):Prop:=
  W.heap.size≤lo∧lo≤hi∧hi≤w.heap.size∧Below W.heap.size W w∧Own w lo hi la L.length (kC L) (vC L)∧(OwnE2 w lo hi d d' G∨(d=a∧d'=a'∧G=E))
theorem InK.keep {W w w':World} {lo hi l1 h1:Nat} {la:Option Addr} {L:List (Int × Int)} {E G:En} {a a' d d':Option Addr} (h:InK W lo hi la L E a a' G d d' w) (hw:Writes l1 h1 w w') (e1:W.heap.size≤l1) (e2:hi≤l1∨h1≤lo):InK W lo hi la L E a a' G d d' w':=by
  obtain ⟨k1,k2,k3,k4,k5,k6⟩:=h;exact ⟨k1,k2,Nat.le_trans k3 hw.size,Writes.below k4 hw e1,k5.writes hw e2,k6.imp (fun k=>k.writes hw e2) id⟩
theorem InK.below {W w w':World} {lo hi:Nat} {la:Option Addr} {L:List (Int × Int)} {E G:En} {a a' d d':Option Addr} (h:InK W lo hi la L E a a' G d d' w) (hb:Below w.heap.size w w'):InK W lo hi la L E a a' G d d' w':=
  h.keep (Writes.of_below (lo:=hi) (hi:=hi) hb) (Nat.le_trans h.1 h.2.1) (.inl (Nat.le_refl _))
theorem InK.eng {W w:World} {lo hi:Nat} {la:Option Addr} {L:List (Int × Int)} {E G:En} {a a' d d':Option Addr} (h:InK W lo hi la L E a a' G d d' w) (hX:EngAt W a a' E):EngAt w d d' G:=by
  obtain ⟨k1,k2,k3,k4,k5,k6⟩:=h
  rcases k6 with k | ⟨rfl,rfl,rfl⟩
  · exact k.at
  · exact hX.below k4
theorem InK.own {W w:World} {lo hi:Nat} {la:Option Addr} {L:List (Int × Int)} {E G:En} {a a' d d':Option Addr} (h:InK W lo hi la L E a a' G d d' w):Own w W.heap.size w.heap.size la L.length (kC L) (vC L):=h.2.2.2.2.1.wide h.1 h.2.2.1 (Nat.le_refl _)
theorem InK.start {W u w2:World} {la:Option Addr} {L:List (Int × Int)} {E G:En} {a a' d d':Option Addr} (hb:Below W.heap.size W u) (hb2:Below u.heap.size u w2) (hL:Own w2 u.heap.size w2.heap.size la L.length (kC L) (vC L)) (hE:OwnE2 w2 u.heap.size w2.heap.size d d' G∨(d=a∧d'=a'∧G=E)):InK W u.heap.size w2.heap.size la L E a a' G d d' w2:=
  ⟨hb.size,hb2.size,Nat.le_refl _,below_then hb hb2,hL,hE⟩
end Go.Proofs.YtjdodbiphijjgaaGreat
