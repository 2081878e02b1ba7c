import Derived.Test.YtjdodbiphijjgaaGreatJVc
import Derived.Test.YtjdodbiphijjgaaGreatJBox
namespace Go.Proofs.YtjdodbiphijjgaaGreat
open Go.RowKit Go.Deep
set_option linter.unusedVariables false
set_option linter.unusedSimpArgs false
set_option maxRecDepth 20000
def OwnRR (w:World) (lo hi:Nat) (a:Option Addr) (n:Nat) (K V:Nat→Int) (d d':Option Addr) (E:En):Prop:=
  hi≤w.heap.size∧∃l1 h1 l2 h2,(h1≤l2∨h2≤l1)∧lo≤l1∧h1≤hi∧lo≤l2∧h2≤hi∧Own w l1 h1 a n K V∧OwnE w l2 h2 d d' E
theorem OwnRR.writes {w w':World} {lo hi lo' hi' n:Nat} {a d d':Option Addr} {K V:Nat→Int} {E:En} (h:OwnRR w lo hi a n K V d d' E) (hw:Writes lo' hi' w w') (hd:hi≤lo'∨hi'≤lo):OwnRR w' lo hi a n K V d d' E:=by
  obtain ⟨h0,l1,h1,l2,h2,k0,k1,k2,k3,k4,k5,k6⟩:=h;exact ⟨Nat.le_trans h0 hw.size,l1,h1,l2,h2,k0,k1,k2,k3,k4,k5.writes hw (by omega),k6.writes hw (by omega)⟩
theorem OwnRR.below {w w':World} {lo hi n:Nat} {a d d':Option Addr} {K V:Nat→Int} {E:En} (h:OwnRR w lo hi a n K V d d' E) (hb:Below w.heap.size w w'):OwnRR w' lo hi a n K V d d' E:=
  h.writes (Writes.of_below (lo:=hi) (hi:=hi) hb) (.inl (Nat.le_refl _))
def Box8r (w:World) (B:Nat) (c0 c1 c2 c3 c4 c5 c6 c7:Value):Prop:=Box4 w B c0 c1 c2 c3∧w.cell? ⟨B,4,none⟩=some c4∧w.cell? ⟨B,5,none⟩=some c5∧w.cell? ⟨B,6,none⟩=some c6∧w.cell? ⟨B,7,none⟩=some c7
theorem Box8r.below {w w':World} {B:Nat} {c0 c1 c2 c3 c4 c5 c6 c7:Value} (h:Box8r w B c0 c1 c2 c3 c4 c5 c6 c7) (x:Below w.heap.size w w'):Box8r w' B c0 c1 c2 c3 c4 c5 c6 c7:=⟨h.1.below x,cell_below h.2.1 x,cell_below h.2.2.1 x,cell_below h.2.2.2.1 x,cell_below h.2.2.2.2 x⟩
theorem Box8r.writes {w w':World} {lo hi:Nat} {B:Nat} {c0 c1 c2 c3 c4 c5 c6 c7:Value} (h:Box8r w B c0 c1 c2 c3 c4 c5 c6 c7) (x:Writes lo hi w w') (d:B<lo∨hi≤B):Box8r w' B c0 c1 c2 c3 c4 c5 c6 c7:=⟨h.1.writes x d,cell_writes h.2.1 x d,cell_writes h.2.2.1 x d,cell_writes h.2.2.2.1 x d,cell_writes h.2.2.2.2 x d⟩
theorem Box8r.new (w:World) (c0 c1 c2 c3 c4 c5 c6 c7:Value) (t:TypeId):Box8r (w.alloc (.cells #[c0,c1,c2,c3,c4,c5,c6,c7] t)) w.heap.size c0 c1 c2 c3 c4 c5 c6 c7:=by simp [Box8r,Box4]
theorem isTxn_any (v:Int) (w:World):Calls Tryz.prog 140 #[.int .i64 v] w fun e w'=>e=.returned (.bool (inB v 1 999))∧w'=w:=by
  go_enter Tryz.func140,Tryz.ntmps140;go_wp2_with (go_at_call 145;refine (within_any _ _ _ _).mono ?_;rintro e w' ⟨rfl,rfl⟩);go_ret;exact ⟨rfl,rfl⟩
theorem isAt_any (v:Int) (w:World):Calls Tryz.prog 141 #[.int .i64 v] w fun e w'=>e=.returned (.bool (inB v 0 1000000))∧w'=w:=by
  go_enter Tryz.func141,Tryz.ntmps141;go_wp2_with (go_at_call 145;refine (within_any _ _ _ _).mono ?_;rintro e w' ⟨rfl,rfl⟩);go_ret;exact ⟨rfl,rfl⟩
theorem l5Txn_any (v:Int) (w:World):Calls Tryz.prog 130 #[.int .i64 v] w fun e w'=>e=.returned (.bool (inB v 1 999))∧w'=w:=by
  go_enter Tryz.func130,Tryz.ntmps130;go_wp2_with (go_at_call 75;refine (l1In_any _ _ _ _).mono ?_;rintro e w' ⟨rfl,rfl⟩);go_ret;exact ⟨rfl,rfl⟩
theorem l5At_any (v:Int) (w:World):Calls Tryz.prog 222 #[.int .i64 v] w fun e w'=>e=.returned (.bool (inB v 1 1000000))∧w'=w:=by
  go_enter Tryz.func222,Tryz.ntmps222;go_wp2_with (go_at_call 75;refine (l1In_any _ _ _ _).mono ?_;rintro e w' ⟨rfl,rfl⟩);go_ret;exact ⟨rfl,rfl⟩
theorem isCommitted_any (t a:Int) (g:Bool) (v:Int) (w:World):Calls Tryz.prog 206 #[.agg #[.int .i64 t,.int .i64 a,.bool g,.int .i64 v]] w fun e w'=>e=.returned (.bool (a != 0))∧Below w.heap.size w w':=by
  go_enter Tryz.func206,Tryz.ntmps206;go_wp2;go_ret;exact ⟨rfl,below_new _ _⟩
theorem goneWithValue_any (t a:Int) (g:Bool) (v:Int) (w:World):Calls Tryz.prog 216 #[.agg #[.int .i64 t,.int .i64 a,.bool g,.int .i64 v]] w fun e w'=>e=.returned (.bool (g && v != 0))∧Below w.heap.size w w':=by
  cases g
  · go_enter Tryz.func216,Tryz.ntmps216;go_wp2;go_ret;exact ⟨rfl,below_new _ _⟩
  · go_enter Tryz.func216,Tryz.ntmps216;go_wp2
    all_goals
      go_ret;exact ⟨ret_bool (by simp [*]),below_new _ _⟩
theorem openBy_any (t a:Int) (g:Bool) (v x:Int) (w:World):Calls Tryz.prog 205 #[.agg #[.int .i64 t,.int .i64 a,.bool g,.int .i64 v],.int .i64 x] w fun e w'=>e=.returned (.bool (t == x && a == 0))∧Below w.heap.size w w':=by
  go_enter Tryz.func205,Tryz.ntmps205;go_wp2
  all_goals
    go_ret;exact ⟨ret_bool (by simp [*]),below_new _ _⟩
def older (r p:Vr):Bool:=r.a != 0 && (p.a == 0 || decide (r.a<p.a))
theorem isOlder_any (r p:Vr) (w:World):Calls Tryz.prog 224 #[.agg #[.int .i64 r.t,.int .i64 r.a,.bool r.g,.int .i64 r.v],.agg #[.int .i64 p.t,.int .i64 p.a,.bool p.g,.int .i64 p.v]] w fun e w'=>e=.returned (.bool (older r p))∧Below w.heap.size w w':=by
  obtain ⟨t,a,g,v⟩:=r;obtain ⟨t',a',g',v'⟩:=p;have hb0:∀o1 o2,Below w.heap.size w ((w.alloc o1).alloc o2):=fun o1 o2=>((Below.refl _ _).alloc (Nat.le_refl _) _).alloc (by simp) _;unfold older
  by_cases h1:a=0
  · subst h1;have e1:((0:Int) != 0)=false:=rfl;go_enter Tryz.func224,Tryz.ntmps224;go_wp2_with fail;refine (isCommitted_any _ _ _ _ _).mono ?_;rintro e w1 ⟨rfl,hb1⟩;rw [e1];go_wp2_with fail;go_ret;exact ⟨rfl,below_then (hb0 _ _) hb1⟩
  · have e1:(a != 0)=true:=by simp [h1]
    by_cases h2:a'=0
    · subst h2;have e2:((0:Int) != 0)=false:=rfl;go_enter Tryz.func224,Tryz.ntmps224;go_wp2_with fail;refine (isCommitted_any _ _ _ _ _).mono ?_;rintro e w1 ⟨rfl,hb1⟩;rw [e1];obtain ⟨hc,hf⟩:=bcell hb1;go_wp2_with fail;refine (isCommitted_any _ _ _ _ _).mono ?_;rintro e w2 ⟨rfl,hb2⟩;rw [e2];go_wp2_with fail;go_ret;exact ⟨ret_bool (by simp [h1]),below_then (below_then (hb0 _ _) hb1) hb2⟩
    · have e2:(a' != 0)=true:=by simp [h2]
      have HV:Hid ((a != 0 && (a' == 0 || decide (a<a')))=decide (a<a')):=by
        have e3:(a' == 0)=false:=(by simp [h2]);show (a != 0 && (a' == 0 || decide (a<a')))=decide (a<a');rw [e1,e3];rfl
      go_enter Tryz.func224,Tryz.ntmps224;go_wp2_with fail;refine (isCommitted_any _ _ _ _ _).mono ?_;rintro e w1 ⟨rfl,hb1⟩;rw [e1];obtain ⟨hc,hf⟩:=bcell hb1;go_wp2_with fail;refine (isCommitted_any _ _ _ _ _).mono ?_;rintro e w2 ⟨rfl,hb2⟩;rw [e2];have hb3:=below_then hb1 hb2;obtain ⟨hc2,hf2⟩:=bcell hb3;go_wp2_with fail;go_ret;exact ⟨ret_bool HV.out.symm,below_then (hb0 _ _) hb3⟩
def kd (r:Vr) (x o:Int):Int:=if (r.a≠0∧r.a≤x)∨(r.t=o∧r.a=0) then (if r.g then 1 else 2) else 0
theorem kindIn_any (r:Vr) (x o:Int) (w:World):Calls Tryz.prog 170 #[.agg #[.int .i64 r.t,.int .i64 r.a,.bool r.g,.int .i64 r.v],.agg #[.int .i64 x,.int .i64 o]] w fun e w'=>e=.returned (.int .i64 (kd r x o))∧Below w.heap.size w w':=by
  obtain ⟨t,a,g,v⟩:=r;have hb0:∀o1 o2,Below w.heap.size w ((w.alloc o1).alloc o2):=fun o1 o2=>((Below.refl _ _).alloc (Nat.le_refl _) _).alloc (by simp) _
  by_cases h1:a=0
  · subst h1;have e1:((0:Int) != 0)=false:=rfl
    by_cases h2:t=o
    · subst h2;have e2:(t == t && (0:Int) == 0)=true:=(by simp);cases g
      all_goals
        go_enter Tryz.func170,Tryz.ntmps170;go_wp2_with fail;refine (isCommitted_any _ _ _ _ _).mono ?_;rintro e w1 ⟨rfl,hb1⟩;rw [e1];obtain ⟨hc,hf⟩:=bcell hb1;go_wp2_with fail;refine (openBy_any _ _ _ _ _ _).mono ?_;rintro e w2 ⟨rfl,hb2⟩;rw [e2];have hb3:=below_then hb1 hb2;obtain ⟨hc2,hf2⟩:=bcell hb3;go_wp2_with fail;go_ret;exact ⟨ret_int (by simp [kd]),below_then (hb0 _ _) hb3⟩
    · have e2:(t == o && (0:Int) == 0)=false:=by simp [h2]
      go_enter Tryz.func170,Tryz.ntmps170;go_wp2_with fail;refine (isCommitted_any _ _ _ _ _).mono ?_;rintro e w1 ⟨rfl,hb1⟩;rw [e1];obtain ⟨hc,hf⟩:=bcell hb1;go_wp2_with fail;refine (openBy_any _ _ _ _ _ _).mono ?_;rintro e w2 ⟨rfl,hb2⟩;rw [e2];go_wp2_with fail;go_ret;exact ⟨ret_int (by simp [kd,h2]),below_then (below_then (hb0 _ _) hb1) hb2⟩
  · have e1:(a != 0)=true:=by simp [h1]
    by_cases h3:a≤x
    · cases g
      all_goals
        go_enter Tryz.func170,Tryz.ntmps170;go_wp2_with fail;refine (isCommitted_any _ _ _ _ _).mono ?_;rintro e w1 ⟨rfl,hb1⟩;rw [e1];obtain ⟨hc,hf⟩:=bcell hb1;go_wp2_with fail;go_ret;exact ⟨ret_int (by simp [kd,h1,h3]),below_then (hb0 _ _) hb1⟩
    · have e3:decide (a≤x)=false:=by simp;omega
      have HK:Hid (kd ⟨t,a,g,v⟩ x o=0):=by
        show _=_;unfold kd;exact if_neg (by intro h;simp only [ne_eq] at h;omega)
      have e2:(t == o && a == 0)=false:=(by simp [h1]);go_enter Tryz.func170,Tryz.ntmps170;go_wp2_with fail;refine (isCommitted_any _ _ _ _ _).mono ?_;rintro e w1 ⟨rfl,hb1⟩;rw [e1];obtain ⟨hc,hf⟩:=bcell hb1;go_wp2_with fail;refine (openBy_any _ _ _ _ _ _).mono ?_;rintro e w2 ⟨rfl,hb2⟩;rw [e2];go_wp2_with fail;go_ret;exact ⟨ret_int HK.out.symm,below_then (below_then (hb0 _ _) hb1) hb2⟩
def vR (r:Vr):Bool:=inB r.t 1 999 && inB r.a 0 1000000 && inB r.v 0 9999
def vF (R:Nat→Vr) (i:Nat):Bool:=(R i).g && (R i).v != 0 || (decide (0<i) && !older (R i) (R (i-1)))
def chf (R:Nat→Vr):Nat→Nat→Int
  | 0,_=>0
  | m+1,i=>if vR (R i)=false then 3 else if vF R i=true then 1 else chf R m (i+1)
def chF (n:Nat) (R:Nat→Vr):Int:=if 12<n then 2 else chf R n 0
theorem chf_at {R:Nat→Vr} {n k:Nat} (h:k<n):chf R (n-k) k=if vR (R k)=false then 3 else if vF R k=true then 1 else chf R (n-(k+1)) (k+1):=by
  obtain ⟨m,hm⟩:∃m,n-k=m+1:=⟨n-k-1,by omega⟩;rw [hm,chf,show n-(k+1)=m by omega]
theorem box_v (w:World) (r:Vr) (T:TypeId):C4 (w.alloc (.cells #[.int .i64 r.t,.int .i64 r.a,.bool r.g,.int .i64 r.v] T)) w.heap.size 0 r:=by simp [C4]
theorem C4.below {w w':World} {b o:Nat} {r:Vr} (h:C4 w b o r) (hb:Below w.heap.size w w'):C4 w' b o r:=h.block (hb.block _ (Go.block_lt_of_cell h.1))
theorem any_skip {P:Program} {md:Region.Mode} {ops:Array Oper} {Q:Exit→Act→World→Prop} {fuel:Nat} {listed:Array Bool} {a:Act} {w:World} (i:Nat) (d:Option Tmp) (hd:(ops[i]?).map (fun o=>o.dst)=some d)
    (hs:Region.noSelect ops=true) (hf:Region.free md ops listed i=true) (hr:(Region.ready md ops listed).contains i=true)
    (hw:(ops[i]?).map (fun o=>Region.wanted o (yielded ops a.tmps))=some false) (hQ:∀c a w,Q (.panic c) (a.put d undef) w→Q (.panic c) a w)
    (h:wpAny P md ops Q fuel (listed.setIfInBounds i true) (a.put d undef) w):wpAny P md ops Q (fuel+1) listed a w:=by
  obtain ⟨o,ho,rfl⟩:=Option.map_eq_some_iff.1 hd;obtain ⟨o',ho',hw'⟩:=Option.map_eq_some_iff.1 hw;obtain rfl:o=o':=(by rw [ho] at ho';exact Option.some.inj ho');exact wpAny_take ho hs hf hr hQ (.inr ⟨hw',rfl⟩) h
set_option maxHeartbeats 8000000 in
theorem implChf_some (n:Nat) (R:Nat→Vr) (b off cap:Nat) (w:World) (hn:n≤12) (hbl:b<w.heap.size) (hc:∀i,i<n→C4 w b (off+i*4) (R i)) :
    Calls Tryz.prog 195 #[.slice (some ⟨b,off,none⟩) n cap] w fun e w'=>e=.returned (.int .i64 (chf R n 0))∧Below w.heap.size w w':=by
  have HC:Hid (∀i,i<n→C4 w b (off+i*4) (R i)):=hc;have hn':¬((12:Int)<(n:Int)):=(by omega);clear hc;go_enter Tryz.func195,Tryz.ntmps195;go_wp2_with fail;go_loopw [3,4,10] (fun _ _ i wr=>∃k:Nat,k≤n∧i=.int .i64 k∧Hid (chf R n 0=chf R (n-k) k)∧Hid (Below w.heap.size w wr)) (fun _ _ i _=>n-(intOf i).toNat)
  case atStart=>exact ⟨0,Nat.zero_le _,rfl,rfl,Below.refl _ _⟩
  case round=>
    obtain ⟨k,hk0,rfl,HE,HB⟩:=hrel
    by_cases hlt:k<n
    · have hX:=(HC.out k hlt).block (HB.out.block _ hbl);have hbw:b<wr.heap.size:=Nat.lt_of_lt_of_le hbl HB.out.size;have hbne:¬b=wr.heap.size:=(by omega);have hlt':(k:Int)<(n:Int):=(by omega);have hk1:(0:Int)≤(k:Int):=(by omega);have HA:Hid (chf R n 0=_):=HE.out.trans (chf_at hlt);clear HE
      by_cases hr:vR (R k)=false
      · have HE:Hid (chf R n 0=3):=HA.out.trans (if_pos hr);clear HA;obtain ⟨x0,x1,x2,x3⟩:=hX;generalize R k=r at *;obtain ⟨t,a,g,v⟩:=r;unfold vR at hr
        by_cases h1:inB t 1 999=true
        · by_cases h2:inB a 0 1000000=true
          · have h3:inB v 0 9999=false:=by simpa [h1,h2] using hr
            clear hr;go_wp2_with (first | (go_at_call 140;refine (isTxn_any _ _).mono ?_;rintro e w' ⟨rfl,rfl⟩) | (go_at_call 141;refine (isAt_any _ _).mono ?_;rintro e w' ⟨rfl,rfl⟩) | (go_at_call 120;refine (isValue_any _ _).mono ?_;rintro e w' ⟨rfl,rfl⟩));go_ret;exact ⟨ret_int HE.out.symm,below_then HB.out (below_new _ _)⟩
          · have h4:inB a 0 1000000=false:=by simpa using h2
            clear hr h2;go_wp2_with (first | (go_at_call 140;refine (isTxn_any _ _).mono ?_;rintro e w' ⟨rfl,rfl⟩) | (go_at_call 141;refine (isAt_any _ _).mono ?_;rintro e w' ⟨rfl,rfl⟩));go_ret;exact ⟨ret_int HE.out.symm,below_then HB.out (below_new _ _)⟩
        · have h4:inB t 1 999=false:=by simpa using h1
          clear hr h1;go_wp2_with (go_at_call 140;refine (isTxn_any _ _).mono ?_;rintro e w' ⟨rfl,rfl⟩);go_ret;exact ⟨ret_int HE.out.symm,below_then HB.out (below_new _ _)⟩
      · have hr':vR (R k)=true:=by simpa using hr
        have ⟨⟨h1,h2⟩,h3⟩:(inB (R k).t 1 999=true∧inB (R k).a 0 1000000=true)∧inB (R k).v 0 9999=true:=(by simpa [vR] using hr');have HA2:Hid (chf R n 0=_):=HA.out.trans (if_neg hr);clear HA hr hr'
        by_cases hg:((R k).g && (R k).v != 0)=true
        · have HE:Hid (chf R n 0=1):=HA2.out.trans (if_pos (by simp only [vF,hg,Bool.true_or]));clear HA2;generalize R k=r at *;obtain ⟨x0,x1,x2,x3⟩:=hX;go_wp2_with (first | (go_at_call 140;refine (isTxn_any _ _).mono ?_;rintro e w' ⟨rfl,rfl⟩) | (go_at_call 141;refine (isAt_any _ _).mono ?_;rintro e w' ⟨rfl,rfl⟩) | (go_at_call 120;refine (isValue_any _ _).mono ?_;rintro e w' ⟨rfl,rfl⟩));have hBX:=box_v wr r 179;have HB0:Hid (Below w.heap.size w (wr.alloc (.cells #[.int .i64 r.t,.int .i64 r.a,.bool r.g,.int .i64 r.v] 179))):=below_then HB.out (below_new _ _);generalize wr.alloc (.cells #[.int .i64 r.t,.int .i64 r.a,.bool r.g,.int .i64 r.v] 179)=wc at *;generalize wr.heap.size=B at *;obtain ⟨q0,q1,q2,q3⟩:=hBX;simp only [Nat.zero_add] at q1 q2 q3;clear x0 x1 x2 x3;refine wp_region_any (by kernel_rfl) ?_;change wpAny _ _ _ _ _ _ _ (World.drew _);refine wpAny_ready (rs:=[0]) (by kernel_rfl) (by simp) ?_;refine AllReady.cons rfl (fun K hK=>?_) AllReady.nil;go_simp;refine hK _ _ ?_;clear hK K;refine wpAny_ready (rs:=[1]) (by kernel_rfl) (by simp) ?_;refine AllReady.cons rfl (fun K hK=>?_) AllReady.nil;go_simp;go_at_call 216;refine (goneWithValue_any _ _ _ _ _).mono ?_;rintro e w1 ⟨rfl,hb1⟩;rw [hg];have HB1:Hid (Below w.heap.size w w1):=below_then HB0.out (drewB6 hb1);go_simp;refine hK _ _ ?_;clear hK K;refine wpAny_take (i:=2) (v:=.bool true) rfl (by kernel_rfl) (by kernel_rfl) (by kernel_rfl) (fun _ _ _ h=>h) (Or.inl ⟨by kernel_rfl,by intro w;go_simp⟩) ?_;refine any_skip 3 (some 34) (by kernel_rfl) (by kernel_rfl) (by kernel_rfl) (by kernel_rfl) (by kernel_rfl) (fun _ _ _ h=>h) ?_;refine any_skip 4 (some 35) (by kernel_rfl) (by kernel_rfl) (by kernel_rfl) (by kernel_rfl) (by kernel_rfl) (fun _ _ _ h=>h) ?_;refine any_skip 5 (some 36) (by kernel_rfl) (by kernel_rfl) (by kernel_rfl) (by kernel_rfl) (by kernel_rfl) (fun _ _ _ h=>h) ?_;refine any_skip 6 (some 37) (by kernel_rfl) (by kernel_rfl) (by kernel_rfl) (by kernel_rfl) (by kernel_rfl) (fun _ _ _ h=>h) ?_;refine any_skip 7 (some 38) (by kernel_rfl) (by kernel_rfl) (by kernel_rfl) (by kernel_rfl) (by kernel_rfl) (fun _ _ _ h=>h) ?_;refine any_skip 8 (some 39) (by kernel_rfl) (by kernel_rfl) (by kernel_rfl) (by kernel_rfl) (by kernel_rfl) (fun _ _ _ h=>h) ?_;refine any_skip 9 (some 40) (by kernel_rfl) (by kernel_rfl) (by kernel_rfl) (by kernel_rfl) (by kernel_rfl) (fun _ _ _ h=>h) ?_;refine any_skip 10 (some 41) (by kernel_rfl) (by kernel_rfl) (by kernel_rfl) (by kernel_rfl) (by kernel_rfl) (fun _ _ _ h=>h) ?_;refine any_skip 11 (some 42) (by kernel_rfl) (by kernel_rfl) (by kernel_rfl) (by kernel_rfl) (by kernel_rfl) (fun _ _ _ h=>h) ?_;refine any_skip 12 (some 43) (by kernel_rfl) (by kernel_rfl) (by kernel_rfl) (by kernel_rfl) (by kernel_rfl) (fun _ _ _ h=>h) ?_;refine any_skip 13 (some 44) (by kernel_rfl) (by kernel_rfl) (by kernel_rfl) (by kernel_rfl) (by kernel_rfl) (fun _ _ _ h=>h) ?_;refine any_skip 14 (some 45) (by kernel_rfl) (by kernel_rfl) (by kernel_rfl) (by kernel_rfl) (by kernel_rfl) (fun _ _ _ h=>h) ?_;refine wpAny_take (i:=15) (v:=.bool true) rfl (by kernel_rfl) (by kernel_rfl) (by kernel_rfl) (fun _ _ _ h=>h) (Or.inl ⟨by kernel_rfl,by intro w;go_simp⟩) ?_;refine wpAny_done (by kernel_rfl) ?_ _;go_simp;go_wp2_with fail;go_ret;exact ⟨ret_int HE.out.symm,HB1.out⟩
        · have hg':((R k).g && (R k).v != 0)=false:=by simpa using hg
          clear hg
          rcases Nat.eq_zero_or_pos k with hk9 | hpos
          · have hd:decide (0<k)=false:=by simp;omega
            have HE:Hid (chf R n 0=chf R (n-(k+1)) (k+1)):=HA2.out.trans (if_neg (by simp only [vF,hg',Bool.false_or];simp;omega));clear HA2 hk9;generalize R k=r at *;obtain ⟨x0,x1,x2,x3⟩:=hX;go_wp2_with (first | (go_at_call 140;refine (isTxn_any _ _).mono ?_;rintro e w' ⟨rfl,rfl⟩) | (go_at_call 141;refine (isAt_any _ _).mono ?_;rintro e w' ⟨rfl,rfl⟩) | (go_at_call 120;refine (isValue_any _ _).mono ?_;rintro e w' ⟨rfl,rfl⟩));have hBX:=box_v wr r 179;have HB0:Hid (Below w.heap.size w (wr.alloc (.cells #[.int .i64 r.t,.int .i64 r.a,.bool r.g,.int .i64 r.v] 179))):=below_then HB.out (below_new _ _);generalize wr.alloc (.cells #[.int .i64 r.t,.int .i64 r.a,.bool r.g,.int .i64 r.v] 179)=wc at *;generalize wr.heap.size=B at *;obtain ⟨q0,q1,q2,q3⟩:=hBX;simp only [Nat.zero_add] at q1 q2 q3;clear x0 x1 x2 x3;refine wp_region_any (by kernel_rfl) ?_;change wpAny _ _ _ _ _ _ _ (World.drew _);refine wpAny_ready (rs:=[0]) (by kernel_rfl) (by simp) ?_;refine AllReady.cons rfl (fun K hK=>?_) AllReady.nil;go_simp;refine hK _ _ ?_;clear hK K;refine wpAny_ready (rs:=[1]) (by kernel_rfl) (by simp) ?_;refine AllReady.cons rfl (fun K hK=>?_) AllReady.nil;go_simp;go_at_call 216;refine (goneWithValue_any _ _ _ _ _).mono ?_;rintro e w1 ⟨rfl,hb1⟩;rw [hg'];have HB1:Hid (Below w.heap.size w w1):=below_then HB0.out (drewB6 hb1);go_simp;refine hK _ _ ?_;clear hK K;refine wpAny_take (i:=2) (v:=.bool false) rfl (by kernel_rfl) (by kernel_rfl) (by kernel_rfl) (fun _ _ _ h=>h) (Or.inl ⟨by kernel_rfl,by intro w;go_simp⟩) ?_;refine wpAny_take (i:=3) (v:=.int .i64 (k:Int)) rfl (by kernel_rfl) (by kernel_rfl) (by kernel_rfl) (fun _ _ _ h=>h) (Or.inl ⟨by kernel_rfl,by intro w;go_simp⟩) ?_;refine wpAny_take (i:=4) (v:=.bool false) rfl (by kernel_rfl) (by kernel_rfl) (by kernel_rfl) (fun _ _ _ h=>h) (Or.inl ⟨by kernel_rfl,by intro w;go_simp⟩) ?_;refine wpAny_take (i:=5) (v:=.bool false) rfl (by kernel_rfl) (by kernel_rfl) (by kernel_rfl) (fun _ _ _ h=>h) (Or.inl ⟨by kernel_rfl,by intro w;go_simp⟩) ?_;refine any_skip 6 (some 37) (by kernel_rfl) (by kernel_rfl) (by kernel_rfl) (by kernel_rfl) (by kernel_rfl) (fun _ _ _ h=>h) ?_;refine any_skip 7 (some 38) (by kernel_rfl) (by kernel_rfl) (by kernel_rfl) (by kernel_rfl) (by kernel_rfl) (fun _ _ _ h=>h) ?_;refine any_skip 8 (some 39) (by kernel_rfl) (by kernel_rfl) (by kernel_rfl) (by kernel_rfl) (by kernel_rfl) (fun _ _ _ h=>h) ?_;refine any_skip 9 (some 40) (by kernel_rfl) (by kernel_rfl) (by kernel_rfl) (by kernel_rfl) (by kernel_rfl) (fun _ _ _ h=>h) ?_;refine any_skip 10 (some 41) (by kernel_rfl) (by kernel_rfl) (by kernel_rfl) (by kernel_rfl) (by kernel_rfl) (fun _ _ _ h=>h) ?_;refine any_skip 11 (some 42) (by kernel_rfl) (by kernel_rfl) (by kernel_rfl) (by kernel_rfl) (by kernel_rfl) (fun _ _ _ h=>h) ?_;refine any_skip 12 (some 43) (by kernel_rfl) (by kernel_rfl) (by kernel_rfl) (by kernel_rfl) (by kernel_rfl) (fun _ _ _ h=>h) ?_;refine any_skip 13 (some 44) (by kernel_rfl) (by kernel_rfl) (by kernel_rfl) (by kernel_rfl) (by kernel_rfl) (fun _ _ _ h=>h) ?_;refine wpAny_take (i:=14) (v:=.bool false) rfl (by kernel_rfl) (by kernel_rfl) (by kernel_rfl) (fun _ _ _ h=>h) (Or.inl ⟨by kernel_rfl,by intro w;go_simp⟩) ?_;refine wpAny_take (i:=15) (v:=.bool false) rfl (by kernel_rfl) (by kernel_rfl) (by kernel_rfl) (fun _ _ _ h=>h) (Or.inl ⟨by kernel_rfl,by intro w;go_simp⟩) ?_;refine wpAny_done (by kernel_rfl) ?_ _;go_simp;go_wp2_with fail;go_roundw
            case rel=>exact ⟨k+1,hlt,by go_num,HE,HB1⟩
            case measure=>simp [intOf];omega
          · obtain ⟨j,rfl⟩:∃j,k=j+1:=⟨k-1,by omega⟩;have hP:=(HC.out j (by omega)).block (HB.out.block _ hbl);have hj1:(j:Int)<(n:Int):=(by omega);have hj2:(0:Int)≤(j:Int):=(by omega);have hj3:(0:Int)<(j:Int)+1:=(by omega);have hwj:IntKind.i64.wrap (j:Int)=(j:Int):=(by rw [IntKind.wrap_i64];omega)
            by_cases ho:older (R (j+1)) (R j)=true
            · have HE:Hid (chf R n 0=chf R (n-(j+1+1)) (j+1+1)):=HA2.out.trans (if_neg (by simp only [vF,hg',Bool.false_or];simp [ho]));clear HA2 hpos;generalize R (j+1)=r at *;generalize R j=p at *;obtain ⟨x0,x1,x2,x3⟩:=hX;go_wp2_with (first | (go_at_call 140;refine (isTxn_any _ _).mono ?_;rintro e w' ⟨rfl,rfl⟩) | (go_at_call 141;refine (isAt_any _ _).mono ?_;rintro e w' ⟨rfl,rfl⟩) | (go_at_call 120;refine (isValue_any _ _).mono ?_;rintro e w' ⟨rfl,rfl⟩));have hBX:=box_v wr r 179;have HB0:Hid (Below w.heap.size w (wr.alloc (.cells #[.int .i64 r.t,.int .i64 r.a,.bool r.g,.int .i64 r.v] 179))):=below_then HB.out (below_new _ _);have hPB:C4 (wr.alloc (.cells #[.int .i64 r.t,.int .i64 r.a,.bool r.g,.int .i64 r.v] 179)) b (off+j*4) p:=hP.below (below_new _ _);clear hP;generalize wr.alloc (.cells #[.int .i64 r.t,.int .i64 r.a,.bool r.g,.int .i64 r.v] 179)=wc at *;generalize wr.heap.size=B at *;obtain ⟨q0,q1,q2,q3⟩:=hBX;simp only [Nat.zero_add] at q1 q2 q3;clear x0 x1 x2 x3;obtain ⟨p0,p1,p2,p3⟩:=hPB;have hb0:Below wc.heap.size wc wc.drew:=(Below.refl _ _).drew
              go_region_held3 (fun w'=>Below wc.heap.size wc w'∧w'.cell? ⟨B,0,none⟩=some (.int .i64 r.t)∧w'.cell? ⟨B,1,none⟩=some (.int .i64 r.a)∧w'.cell? ⟨B,2,none⟩=some (.bool r.g)∧w'.cell? ⟨B,3,none⟩=some (.int .i64 r.v)∧w'.cell? ⟨b,off+j*4,none⟩=some (.int .i64 p.t)∧w'.cell? ⟨b,off+j*4+1,none⟩=some (.int .i64 p.a)∧w'.cell? ⟨b,off+j*4+2,none⟩=some (.bool p.g)∧w'.cell? ⟨b,off+j*4+3,none⟩=some (.int .i64 p.v)) (go_keep)
                (first | (go_at_call 216;refine (goneWithValue_any _ _ _ _ _).mono ?_;rintro e wq ⟨rfl,hbq⟩;rw [hg'];have hU:=below_then (w:=wc) (by simp [*]) hbq;have hU0:=cell_below (B:=B) (o:=0) (v:=.int .i64 r.t) (by simp [*]) hbq;have hU1:=cell_below (B:=B) (o:=1) (v:=.int .i64 r.a) (by simp [*]) hbq;have hU2:=cell_below (B:=B) (o:=2) (v:=.bool r.g) (by simp [*]) hbq;have hU3:=cell_below (B:=B) (o:=3) (v:=.int .i64 r.v) (by simp [*]) hbq;have hU4:=cell_below (B:=b) (o:=off+j*4) (v:=.int .i64 p.t) (by simp [*]) hbq;have hU5:=cell_below (B:=b) (o:=off+j*4+1) (v:=.int .i64 p.a) (by simp [*]) hbq;have hU6:=cell_below (B:=b) (o:=off+j*4+2) (v:=.bool p.g) (by simp [*]) hbq;have hU7:=cell_below (B:=b) (o:=off+j*4+3) (v:=.int .i64 p.v) (by simp [*]) hbq) | (go_at_call 224;refine (isOlder_any r p _).mono ?_;rintro e wq ⟨rfl,hbq⟩;rw [ho];have hU:=below_then (w:=wc) (by simp [*]) hbq;have hU0:=cell_below (B:=B) (o:=0) (v:=.int .i64 r.t) (by simp [*]) hbq;have hU1:=cell_below (B:=B) (o:=1) (v:=.int .i64 r.a) (by simp [*]) hbq;have hU2:=cell_below (B:=B) (o:=2) (v:=.bool r.g) (by simp [*]) hbq;have hU3:=cell_below (B:=B) (o:=3) (v:=.int .i64 r.v) (by simp [*]) hbq;have hU4:=cell_below (B:=b) (o:=off+j*4) (v:=.int .i64 p.t) (by simp [*]) hbq;have hU5:=cell_below (B:=b) (o:=off+j*4+1) (v:=.int .i64 p.a) (by simp [*]) hbq;have hU6:=cell_below (B:=b) (o:=off+j*4+2) (v:=.bool p.g) (by simp [*]) hbq;have hU7:=cell_below (B:=b) (o:=off+j*4+3) (v:=.int .i64 p.v) (by simp [*]) hbq))
              go_wp2_with fail;go_roundw
              case rel=>exact ⟨j+1+1,hlt,by go_num,HE,below_then HB0.out (by assumption)⟩
              case measure=>simp [intOf];omega
            · have ho':older (R (j+1)) (R j)=false:=by simpa using ho
              have HE:Hid (chf R n 0=1):=HA2.out.trans (if_pos (by simp only [vF,hg',Bool.false_or];simp [ho']));clear HA2 hpos ho;have ho:=ho';clear ho';generalize R (j+1)=r at *;generalize R j=p at *;obtain ⟨x0,x1,x2,x3⟩:=hX;go_wp2_with (first | (go_at_call 140;refine (isTxn_any _ _).mono ?_;rintro e w' ⟨rfl,rfl⟩) | (go_at_call 141;refine (isAt_any _ _).mono ?_;rintro e w' ⟨rfl,rfl⟩) | (go_at_call 120;refine (isValue_any _ _).mono ?_;rintro e w' ⟨rfl,rfl⟩));have hBX:=box_v wr r 179;have HB0:Hid (Below w.heap.size w (wr.alloc (.cells #[.int .i64 r.t,.int .i64 r.a,.bool r.g,.int .i64 r.v] 179))):=below_then HB.out (below_new _ _);have hPB:C4 (wr.alloc (.cells #[.int .i64 r.t,.int .i64 r.a,.bool r.g,.int .i64 r.v] 179)) b (off+j*4) p:=hP.below (below_new _ _);clear hP;generalize wr.alloc (.cells #[.int .i64 r.t,.int .i64 r.a,.bool r.g,.int .i64 r.v] 179)=wc at *;generalize wr.heap.size=B at *;obtain ⟨q0,q1,q2,q3⟩:=hBX;simp only [Nat.zero_add] at q1 q2 q3;clear x0 x1 x2 x3;obtain ⟨p0,p1,p2,p3⟩:=hPB;have hb0:Below wc.heap.size wc wc.drew:=(Below.refl _ _).drew
              go_region_held3 (fun w'=>Below wc.heap.size wc w'∧w'.cell? ⟨B,0,none⟩=some (.int .i64 r.t)∧w'.cell? ⟨B,1,none⟩=some (.int .i64 r.a)∧w'.cell? ⟨B,2,none⟩=some (.bool r.g)∧w'.cell? ⟨B,3,none⟩=some (.int .i64 r.v)∧w'.cell? ⟨b,off+j*4,none⟩=some (.int .i64 p.t)∧w'.cell? ⟨b,off+j*4+1,none⟩=some (.int .i64 p.a)∧w'.cell? ⟨b,off+j*4+2,none⟩=some (.bool p.g)∧w'.cell? ⟨b,off+j*4+3,none⟩=some (.int .i64 p.v)) (go_keep)
                (first | (go_at_call 216;refine (goneWithValue_any _ _ _ _ _).mono ?_;rintro e wq ⟨rfl,hbq⟩;rw [hg'];have hU:=below_then (w:=wc) (by simp [*]) hbq;have hU0:=cell_below (B:=B) (o:=0) (v:=.int .i64 r.t) (by simp [*]) hbq;have hU1:=cell_below (B:=B) (o:=1) (v:=.int .i64 r.a) (by simp [*]) hbq;have hU2:=cell_below (B:=B) (o:=2) (v:=.bool r.g) (by simp [*]) hbq;have hU3:=cell_below (B:=B) (o:=3) (v:=.int .i64 r.v) (by simp [*]) hbq;have hU4:=cell_below (B:=b) (o:=off+j*4) (v:=.int .i64 p.t) (by simp [*]) hbq;have hU5:=cell_below (B:=b) (o:=off+j*4+1) (v:=.int .i64 p.a) (by simp [*]) hbq;have hU6:=cell_below (B:=b) (o:=off+j*4+2) (v:=.bool p.g) (by simp [*]) hbq;have hU7:=cell_below (B:=b) (o:=off+j*4+3) (v:=.int .i64 p.v) (by simp [*]) hbq) | (go_at_call 224;refine (isOlder_any r p _).mono ?_;rintro e wq ⟨rfl,hbq⟩;rw [ho];have hU:=below_then (w:=wc) (by simp [*]) hbq;have hU0:=cell_below (B:=B) (o:=0) (v:=.int .i64 r.t) (by simp [*]) hbq;have hU1:=cell_below (B:=B) (o:=1) (v:=.int .i64 r.a) (by simp [*]) hbq;have hU2:=cell_below (B:=B) (o:=2) (v:=.bool r.g) (by simp [*]) hbq;have hU3:=cell_below (B:=B) (o:=3) (v:=.int .i64 r.v) (by simp [*]) hbq;have hU4:=cell_below (B:=b) (o:=off+j*4) (v:=.int .i64 p.t) (by simp [*]) hbq;have hU5:=cell_below (B:=b) (o:=off+j*4+1) (v:=.int .i64 p.a) (by simp [*]) hbq;have hU6:=cell_below (B:=b) (o:=off+j*4+2) (v:=.bool p.g) (by simp [*]) hbq;have hU7:=cell_below (B:=b) (o:=off+j*4+3) (v:=.int .i64 p.v) (by simp [*]) hbq))
              go_wp2_with fail;go_ret;exact ⟨ret_int HE.out.symm,below_then HB0.out (by assumption)⟩
    · have HE2:Hid (chf R n 0=0):=by
        refine HE.out.trans ?_;rw [show n-k=0 by omega,chf]
      have hnl:¬((k:Int)<(n:Int)):=(by omega);clear HE;go_wp2_with fail;go_ret;exact ⟨ret_int HE2.out.symm,HB.out⟩
theorem implChf_zero (R:Nat→Vr) (a:Option Addr) (cap:Nat) (w:World):Calls Tryz.prog 195 #[.slice a 0 cap] w fun e w'=>e=.returned (.int .i64 0)∧Below w.heap.size w w':=by
  go_enter Tryz.func195,Tryz.ntmps195;go_wp2;go_loop [3,4,10] (fun _ _ i=>i=.int .i64 0) (fun _ _ _=>0)
  case atStart=>exact rfl
  case round=>
    obtain rfl:=hrel;go_wp2;go_ret;exact ⟨rfl,Below.refl _ _⟩
theorem implChF_any (n:Nat) (R:Nat→Vr) (a:Option Addr) (cap:Nat) (w:World) (hn:n≤9223372036854775807) (h:VersAt w a n R) :
    Calls Tryz.prog 195 #[.slice a n cap] w fun e w'=>e=.returned (.int .i64 (chF n R))∧Below w.heap.size w w':=by
  by_cases h12:12<n
  · have HE:Hid (chF n R=2):=if_pos h12;have h12':(12:Int)<(n:Int):=(by omega);clear h;go_enter Tryz.func195,Tryz.ntmps195;go_wp2_with fail;go_ret;exact ⟨ret_int HE.out.symm,Below.refl _ _⟩
  · rw [show chF n R=chf R n 0 from if_neg h12]
    rcases h with rfl | ⟨b,off,rfl,hl,hc⟩
    · exact implChf_zero R a cap w
    · exact implChf_some n R b off cap w (by omega) hl hc
end Go.Proofs.YtjdodbiphijjgaaGreat
