import Derived.Test.YtjdodbiphijjgaaGreatJBase
import Derived.Deep.RegionLaw
import Derived.Lib.SmallJoins
namespace Go.Proofs.YtjdodbiphijjgaaGreat
open Go.RowKit Go.Deep
set_option linter.unusedVariables false
set_option maxRecDepth 20000
def Box3 (w:World) (B:Nat) (c0 c1 c2:Value):Prop:=w.cell? ⟨B,0,none⟩=some c0∧w.cell? ⟨B,1,none⟩=some c1∧w.cell? ⟨B,2,none⟩=some c2
def Box4 (w:World) (B:Nat) (c0 c1 c2 c3:Value):Prop:=w.cell? ⟨B,0,none⟩=some c0∧w.cell? ⟨B,1,none⟩=some c1∧w.cell? ⟨B,2,none⟩=some c2∧w.cell? ⟨B,3,none⟩=some c3
def Box2 (w:World) (B:Nat) (c0 c1:Value):Prop:=w.cell? ⟨B,0,none⟩=some c0∧w.cell? ⟨B,1,none⟩=some c1
theorem cell_alloc {w:World} {B o:Nat} {v:Value} (h:w.cell? ⟨B,o,none⟩=some v) (x:Obj):(w.alloc x).cell? ⟨B,o,none⟩=some v:=by
  rw [World.cell?_alloc_lt _ _ _ (Go.block_lt_of_cell h)];exact h
theorem cell_writes {w w':World} {lo hi B o:Nat} {v:Value} (h:w.cell? ⟨B,o,none⟩=some v) (hw:Writes lo hi w w') (hd:B<lo∨hi≤B):w'.cell? ⟨B,o,none⟩=some v:=
  (hw.cell (Go.block_lt_of_cell h) hd o).trans h
theorem cell_below {w w':World} {B o:Nat} {v:Value} (h:w.cell? ⟨B,o,none⟩=some v) (hb:Below w.heap.size w w'):w'.cell? ⟨B,o,none⟩=some v:=
  (hb.cell (p:=⟨B,o,none⟩) (Go.block_lt_of_cell h)).trans h
theorem Box2.alloc {w:World} {B:Nat} {c0 c1:Value} (h:Box2 w B c0 c1) (x:Obj):Box2 (w.alloc x) B c0 c1:=⟨cell_alloc h.1 x,cell_alloc h.2 x⟩
theorem Box4.alloc {w:World} {B:Nat} {c0 c1 c2 c3:Value} (h:Box4 w B c0 c1 c2 c3) (x:Obj):Box4 (w.alloc x) B c0 c1 c2 c3:=⟨cell_alloc h.1 x,cell_alloc h.2.1 x,cell_alloc h.2.2.1 x,cell_alloc h.2.2.2 x⟩
theorem Box2.below {w w':World} {B:Nat} {c0 c1:Value} (h:Box2 w B c0 c1) (x:Below w.heap.size w w'):Box2 w' B c0 c1:=⟨cell_below h.1 x,cell_below h.2 x⟩
theorem Box3.below {w w':World} {B:Nat} {c0 c1 c2:Value} (h:Box3 w B c0 c1 c2) (x:Below w.heap.size w w'):Box3 w' B c0 c1 c2:=⟨cell_below h.1 x,cell_below h.2.1 x,cell_below h.2.2 x⟩
theorem Box4.below {w w':World} {B:Nat} {c0 c1 c2 c3:Value} (h:Box4 w B c0 c1 c2 c3) (x:Below w.heap.size w w'):Box4 w' B c0 c1 c2 c3:=⟨cell_below h.1 x,cell_below h.2.1 x,cell_below h.2.2.1 x,cell_below h.2.2.2 x⟩
theorem Box2.writes {w w':World} {lo hi B:Nat} {c0 c1:Value} (h:Box2 w B c0 c1) (x:Writes lo hi w w') (d:B<lo∨hi≤B):Box2 w' B c0 c1:=⟨cell_writes h.1 x d,cell_writes h.2 x d⟩
theorem Box3.writes {w w':World} {lo hi B:Nat} {c0 c1 c2:Value} (h:Box3 w B c0 c1 c2) (x:Writes lo hi w w') (d:B<lo∨hi≤B):Box3 w' B c0 c1 c2:=⟨cell_writes h.1 x d,cell_writes h.2.1 x d,cell_writes h.2.2 x d⟩
theorem Box4.writes {w w':World} {lo hi B:Nat} {c0 c1 c2 c3:Value} (h:Box4 w B c0 c1 c2 c3) (x:Writes lo hi w w') (d:B<lo∨hi≤B):Box4 w' B c0 c1 c2 c3:=⟨cell_writes h.1 x d,cell_writes h.2.1 x d,cell_writes h.2.2.1 x d,cell_writes h.2.2.2 x d⟩
theorem Box2.new (w:World) (c0 c1:Value) (t:TypeId):Box2 (w.alloc (.cells #[c0,c1] t)) w.heap.size c0 c1:=by simp [Box2]
theorem Box3.new (w:World) (c0 c1 c2:Value) (t:TypeId):Box3 (w.alloc (.cells #[c0,c1,c2] t)) w.heap.size c0 c1 c2:=by simp [Box3]
theorem Box4.new (w:World) (c0 c1 c2 c3:Value) (t:TypeId):Box4 (w.alloc (.cells #[c0,c1,c2,c3] t)) w.heap.size c0 c1 c2 c3:=by simp [Box4]
theorem Box4.lt {w:World} {B:Nat} {c0 c1 c2 c3:Value} (h:Box4 w B c0 c1 c2 c3):B<w.heap.size:=Go.block_lt_of_cell h.1
theorem below_new (w:World) (o:Obj):Below w.heap.size w (w.alloc o):=(Below.refl _ _).alloc (Nat.le_refl _) _
def inB (v lo hi:Int):Bool:=decide (lo≤v) && decide (v≤hi)
theorem inB_iff {v lo hi:Int}:inB v lo hi=true↔lo≤v∧v≤hi:=by simp [inB]
def cff (K V:Nat→Int):Nat→Nat→Int
  | 0,_=>0
  | m+1,i=>if inB (K i) 0 31=false∨inB (V i) 0 9999=false then 3 else if 0<i∧K i≤K (i-1) then 1 else cff K V m (i+1)
theorem cff_at {K V:Nat→Int} {n k:Nat} (h:k<n):cff K V (n-k) k=if inB (K k) 0 31=false∨inB (V k) 0 9999=false then 3 else if 0<k∧K k≤K (k-1) then 1 else cff K V (n-(k+1)) (k+1):=by
  obtain ⟨m,hm⟩:∃m,n-k=m+1:=⟨n-k-1,by omega⟩;rw [hm,cff,show n-(k+1)=m by omega]
theorem l1In_any (v lo hi:Int) (w:World):Calls Tryz.prog 75 #[.int .i64 v,.int .i64 lo,.int .i64 hi] w fun e w'=>e=.returned (.bool (inB v lo hi))∧w'=w:=by
  unfold inB
  by_cases h1:lo≤v
  · by_cases h2:v≤hi
    · go_enter Tryz.func75,Tryz.ntmps75;go_wp2;go_ret;exact ⟨ret_bool (by simp [h1,h2]),rfl⟩
    · have h3:decide (v≤hi)=false:=by simp;omega
      go_enter Tryz.func75,Tryz.ntmps75;go_wp2;go_ret;exact ⟨ret_bool (by simp),rfl⟩
  · have h3:decide (lo≤v)=false:=by simp;omega
    go_enter Tryz.func75,Tryz.ntmps75;go_wp2;go_ret;exact ⟨ret_bool (by simp),rfl⟩
theorem within_any (v lo hi:Int) (w:World):Calls Tryz.prog 145 #[.int .i64 v,.int .i64 lo,.int .i64 hi] w fun e w'=>e=.returned (.bool (inB v lo hi))∧w'=w:=by
  unfold inB
  by_cases h1:lo≤v
  · by_cases h2:v≤hi
    · go_enter Tryz.func145,Tryz.ntmps145;go_wp2;go_ret;exact ⟨ret_bool (by simp [h1,h2]),rfl⟩
    · have h3:decide (v≤hi)=false:=by simp;omega
      go_enter Tryz.func145,Tryz.ntmps145;go_wp2;go_ret;exact ⟨ret_bool (by simp),rfl⟩
  · have h3:decide (lo≤v)=false:=by simp;omega
    go_enter Tryz.func145,Tryz.ntmps145;go_wp2;go_ret;exact ⟨ret_bool (by simp),rfl⟩
theorem l1Key_any (v:Int) (w:World):Calls Tryz.prog 61 #[.int .i64 v] w fun e w'=>e=.returned (.bool (inB v 0 31))∧w'=w:=by
  go_enter Tryz.func61,Tryz.ntmps61;go_wp2_with (go_at_call 75;refine (l1In_any _ _ _ _).mono ?_;rintro e w' ⟨rfl,rfl⟩);go_ret;exact ⟨rfl,rfl⟩
theorem l1Value_any (v:Int) (w:World):Calls Tryz.prog 62 #[.int .i64 v] w fun e w'=>e=.returned (.bool (inB v 0 9999))∧w'=w:=by
  go_enter Tryz.func62,Tryz.ntmps62;go_wp2_with (go_at_call 75;refine (l1In_any _ _ _ _).mono ?_;rintro e w' ⟨rfl,rfl⟩);go_ret;exact ⟨rfl,rfl⟩
theorem isKey_any (v:Int) (w:World):Calls Tryz.prog 99 #[.int .i64 v] w fun e w'=>e=.returned (.bool (inB v 0 31))∧w'=w:=by
  go_enter Tryz.func99,Tryz.ntmps99;go_wp2_with (go_at_call 145;refine (within_any _ _ _ _).mono ?_;rintro e w' ⟨rfl,rfl⟩);go_ret;exact ⟨rfl,rfl⟩
theorem isValue_any (v:Int) (w:World):Calls Tryz.prog 120 #[.int .i64 v] w fun e w'=>e=.returned (.bool (inB v 0 9999))∧w'=w:=by
  go_enter Tryz.func120,Tryz.ntmps120;go_wp2_with (go_at_call 145;refine (within_any _ _ _ _).mono ?_;rintro e w' ⟨rfl,rfl⟩);go_ret;exact ⟨rfl,rfl⟩
set_option maxHeartbeats 1000000 in
theorem cellsFault_some (n:Nat) (K V:Nat→Int) (b off cap:Nat) (w:World) (hn:n≤140737488355328) (hbl:b<w.heap.size)
    (hk:∀i,i<n→w.cell? ⟨b,off+i*2,none⟩=some (.int .i64 (K i))) (hv:∀i,i<n→w.cell? ⟨b,off+i*2+1,none⟩=some (.int .i64 (V i))) :
    Calls Tryz.prog 200 #[.slice (some ⟨b,off,none⟩) n cap] w fun e w'=>e=.returned (.int .i64 (cff K V n 0))∧Below w.heap.size w w':=by
  go_enter Tryz.func200,Tryz.ntmps200;go_wp2;go_loopw [3,4,7] (fun _ _ i wr=>∃k:Nat,k≤n∧i=.int .i64 k∧Hid (cff K V n 0=cff K V (n-k) k)∧Below w.heap.size w wr) (fun _ _ i _=>n-(intOf i).toNat)
  case atStart=>exact ⟨0,Nat.zero_le _,rfl,rfl,Below.refl _ _⟩
  case round=>
    obtain ⟨k,hk0,rfl,HC,hb⟩:=hrel
    by_cases hlt:k<n
    · have h1:wr.cell? ⟨b,off+k*2,none⟩=some (.int .i64 (K k)):=(hb.cell (p:=⟨b,_,none⟩) hbl).trans (hk k hlt);have h2:wr.cell? ⟨b,off+k*2+1,none⟩=some (.int .i64 (V k)):=(hb.cell (p:=⟨b,_,none⟩) hbl).trans (hv k hlt);have hbne:¬b=wr.heap.size:=(by have:=hb.size;omega);have hlt':(k:Int)<(n:Int):=(by omega);have HB:Hid (Below w.heap.size w wr):=hb;have HA:Hid (cff K V n 0=_):=HC.out.trans (cff_at hlt);clear HC
      by_cases hc1:inB (K k) 0 31=true
      · by_cases hc2:inB (V k) 0 9999=true
        · rcases Nat.eq_zero_or_pos k with hk9 | hpos
          · have hd:decide (0<k)=false:=by simp;omega
            have HC:Hid (cff K V n 0=cff K V (n-(k+1)) (k+1)):=by
              refine HA.out.trans ?_;rw [if_neg (by simp [hc1,hc2]),if_neg (by omega)]
            clear hk hv hb HA hk9;go_wp2_with (first | (go_at_call 99;refine (isKey_any _ _).mono ?_;rintro e w' ⟨rfl,rfl⟩) | (go_at_call 120;refine (isValue_any _ _).mono ?_;rintro e w' ⟨rfl,rfl⟩));go_quiet (fail);go_wp2;go_roundw
            case rel=>exact ⟨k+1,hlt,by go_num,HC,by have hs:=HB.out.size;repeat (first | exact HB.out | apply Below.drew | refine below_drewN ?_ _ | refine Below.alloc ?_ (by first | omega | (simp;omega)) _)⟩
            case measure=>simp [intOf];omega
          · obtain ⟨j,rfl⟩:∃j,k=j+1:=⟨k-1,by omega⟩;have h3:wr.cell? ⟨b,off+j*2,none⟩=some (.int .i64 (K j)):=(hb.cell (p:=⟨b,_,none⟩) hbl).trans (hk j (by omega));have hj1:(j:Int)<(n:Int):=(by omega);have hj2:j<n:=(by omega);have h3a:∀o:Obj,(wr.alloc o).cell? ⟨b,off+j*2,none⟩=some (.int .i64 (K j)):=fun o=>cell_alloc h3 o;have hwj:IntKind.i64.wrap (j:Int)=(j:Int):=(by rw [IntKind.wrap_i64];omega)
            by_cases hc3:K (j+1)≤K j
            · have HC:Hid (cff K V n 0=1):=by
                refine HA.out.trans ?_;rw [if_neg (by simp [hc1,hc2]),if_pos ⟨by omega,by simpa using hc3⟩]
              clear hk hv hb HA;go_wp2_with (first | (go_at_call 99;refine (isKey_any _ _).mono ?_;rintro e w' ⟨rfl,rfl⟩) | (go_at_call 120;refine (isValue_any _ _).mono ?_;rintro e w' ⟨rfl,rfl⟩));go_quiet (fail);go_wp2;go_ret;exact ⟨ret_int HC.out.symm,by have hs:=HB.out.size;repeat (first | exact HB.out | apply Below.drew | refine below_drewN ?_ _ | refine Below.alloc ?_ (by first | omega | (simp;omega)) _)⟩
            · have HC:Hid (cff K V n 0=cff K V (n-(j+1+1)) (j+1+1)):=by
                refine HA.out.trans ?_;rw [if_neg (by simp [hc1,hc2]),if_neg (by simp;omega)]
              have hc4:decide (K (j+1)≤K j)=false:=(by simp;omega);clear hk hv hb HA;go_wp2_with (first | (go_at_call 99;refine (isKey_any _ _).mono ?_;rintro e w' ⟨rfl,rfl⟩) | (go_at_call 120;refine (isValue_any _ _).mono ?_;rintro e w' ⟨rfl,rfl⟩));go_quiet (fail);go_wp2;go_roundw
              case rel=>exact ⟨j+1+1,hlt,by go_num,HC,by have hs:=HB.out.size;repeat (first | exact HB.out | apply Below.drew | refine below_drewN ?_ _ | refine Below.alloc ?_ (by first | omega | (simp;omega)) _)⟩
              case measure=>simp [intOf];omega
        · have hc4:inB (V k) 0 9999=false:=by simpa using hc2
          have HC:Hid (cff K V n 0=3):=by
            refine HA.out.trans ?_;rw [if_pos (.inr hc4)]
          clear hk hv hb HA hc2;go_wp2_with (first | (go_at_call 99;refine (isKey_any _ _).mono ?_;rintro e w' ⟨rfl,rfl⟩) | (go_at_call 120;refine (isValue_any _ _).mono ?_;rintro e w' ⟨rfl,rfl⟩));go_ret;exact ⟨ret_int HC.out.symm,by have hs:=HB.out.size;repeat (first | exact HB.out | apply Below.drew | refine below_drewN ?_ _ | refine Below.alloc ?_ (by first | omega | (simp;omega)) _)⟩
      · have hc4:inB (K k) 0 31=false:=by simpa using hc1
        have HC:Hid (cff K V n 0=3):=by
          refine HA.out.trans ?_;rw [if_pos (.inl hc4)]
        clear hk hv hb HA hc1;go_wp2_with (first | (go_at_call 99;refine (isKey_any _ _).mono ?_;rintro e w' ⟨rfl,rfl⟩) | (go_at_call 120;refine (isValue_any _ _).mono ?_;rintro e w' ⟨rfl,rfl⟩));go_ret;exact ⟨ret_int HC.out.symm,by have hs:=HB.out.size;repeat (first | exact HB.out | apply Below.drew | refine below_drewN ?_ _ | refine Below.alloc ?_ (by first | omega | (simp;omega)) _)⟩
    · have HC2:Hid (cff K V n 0=0):=by
        refine HC.out.trans ?_;rw [show n-k=0 by omega,cff]
      clear hk hv HC;go_wp2;go_ret;exact ⟨ret_int HC2.out.symm,hb⟩
theorem cellsFault_zero (K V:Nat→Int) (a:Option Addr) (cap:Nat) (w:World) :
    Calls Tryz.prog 200 #[.slice a 0 cap] w fun e w'=>e=.returned (.int .i64 (cff K V 0 0))∧Below w.heap.size w w':=by
  go_enter Tryz.func200,Tryz.ntmps200;go_wp2;go_loop [3,4,7] (fun _ _ i=>i=.int .i64 0) (fun _ _ _=>0)
  case atStart=>exact rfl
  case round=>
    obtain rfl:=hrel;go_wp2;go_ret;exact ⟨rfl,Below.refl _ _⟩
theorem cellsFault_any (n:Nat) (K V:Nat→Int) (a:Option Addr) (cap:Nat) (w:World) (hn:n≤140737488355328) (h:CellsAt w a n K V) :
    Calls Tryz.prog 200 #[.slice a n cap] w fun e w'=>e=.returned (.int .i64 (cff K V n 0))∧Below w.heap.size w w':=by
  rcases h with rfl | ⟨b,off,rfl,hbl,hk,hv⟩
  · exact cellsFault_zero K V a cap w
  · exact cellsFault_some n K V b off cap w hn hbl hk hv
structure Vr where
  t:Int
  a:Int
  g:Bool
  v:Int
def C4 (w:World) (b o:Nat) (r:Vr):Prop:=
  w.cell? ⟨b,o,none⟩=some (.int .i64 r.t)∧w.cell? ⟨b,o+1,none⟩=some (.int .i64 r.a)∧w.cell? ⟨b,o+2,none⟩=some (.bool r.g)∧w.cell? ⟨b,o+3,none⟩=some (.int .i64 r.v)
theorem C4.block {w w':World} {b o:Nat} {r:Vr} (h:C4 w b o r) (e:w'.heap[b]? = w.heap[b]?):C4 w' b o r:=by
  have g:∀i,w'.cell? ⟨b,i,none⟩=w.cell? ⟨b,i,none⟩:=fun i=>World.cell?_of_block (w:=w) (a:=⟨b,i,none⟩) e;obtain ⟨h0,h1,h2,h3⟩:=h;exact ⟨(g _).trans h0,(g _).trans h1,(g _).trans h2,(g _).trans h3⟩
def VersAt (w:World) (a:Option Addr) (n:Nat) (R:Nat→Vr):Prop:=n=0∨∃b off,a=some ⟨b,off,none⟩∧b<w.heap.size∧∀i,i<n→C4 w b (off+i*4) (R i)
def Row4 (w:World) (b off n:Nat) (R:Nat→Vr):Prop:=(∀i,i<n→C4 w b (off+i*4) (R i))∧∀i,w.frozen? ⟨b,i,none⟩=false
def Own4 (w:World) (lo hi:Nat) (a:Option Addr) (n:Nat) (R:Nat→Vr):Prop:=hi≤w.heap.size∧(n=0∨∃b off,a=some ⟨b,off,none⟩∧lo≤b∧b<hi∧Row4 w b off n R)
theorem VersAt.below {w w':World} {a:Option Addr} {n:Nat} {R:Nat→Vr} (h:VersAt w a n R) (hb:Below w.heap.size w w'):VersAt w' a n R:=by
  rcases h with h | ⟨b,off,ha,hl,hc⟩
  · exact .inl h
  · exact .inr ⟨b,off,ha,Nat.lt_of_lt_of_le hl hb.size,fun i hi=>(hc i hi).block (hb.block _ hl)⟩
theorem VersAt.congr {w:World} {a:Option Addr} {n:Nat} {R S:Nat→Vr} (h:VersAt w a n R) (e:∀i,i<n→R i=S i):VersAt w a n S:=by
  rcases h with h | ⟨b,off,ha,hl,hc⟩
  · exact .inl h
  · exact .inr ⟨b,off,ha,hl,fun i hi=>by rw [←e i hi];exact hc i hi⟩
theorem Own4.at {w:World} {lo hi:Nat} {a:Option Addr} {n:Nat} {R:Nat→Vr} (h:Own4 w lo hi a n R):VersAt w a n R:=by
  obtain ⟨h0,h1 | ⟨b,off,ha,_,hl,hc⟩⟩:=h
  · exact .inl h1
  · exact .inr ⟨b,off,ha,by omega,hc.1⟩
theorem Own4.congr {w:World} {lo hi:Nat} {a:Option Addr} {n:Nat} {R S:Nat→Vr} (h:Own4 w lo hi a n R) (e:∀i,i<n→R i=S i):Own4 w lo hi a n S:=by
  obtain ⟨h0,h1 | ⟨b,off,ha,h2,hl,hc⟩⟩:=h
  · exact ⟨h0,.inl h1⟩
  · exact ⟨h0,.inr ⟨b,off,ha,h2,hl,fun i hi=>by rw [←e i hi];exact hc.1 i hi,hc.2⟩⟩
theorem Own4.writes {w w':World} {lo hi lo' hi':Nat} {a:Option Addr} {n:Nat} {R:Nat→Vr} (h:Own4 w lo hi a n R) (hw:Writes lo' hi' w w') (hd:hi≤lo'∨hi'≤lo):Own4 w' lo hi a n R:=by
  obtain ⟨h0,h1 | ⟨b,off,ha,h2,hl,hc⟩⟩:=h
  · exact ⟨Nat.le_trans h0 hw.size,.inl h1⟩
  · have hb:=hw.block b (by omega) (by omega);exact ⟨Nat.le_trans h0 hw.size,.inr ⟨b,off,ha,h2,hl,fun i hi=>(hc.1 i hi).block hb,fun i=>(World.frozen?_of_block (w:=w) (a:=⟨b,i,none⟩) hb).trans (hc.2 i)⟩⟩
theorem Own4.below {w w':World} {lo hi:Nat} {a:Option Addr} {n:Nat} {R:Nat→Vr} (h:Own4 w lo hi a n R) (hb:Below w.heap.size w w'):Own4 w' lo hi a n R:=
  h.writes (Writes.of_below (lo:=hi) (hi:=hi) hb) (.inl (Nat.le_refl _))
theorem Own4.wide {w:World} {lo hi lo' hi':Nat} {a:Option Addr} {n:Nat} {R:Nat→Vr} (h:Own4 w lo hi a n R) (h1:lo'≤lo) (h2:hi≤hi') (h3:hi'≤w.heap.size):Own4 w lo' hi' a n R:=by
  obtain ⟨h0,h4 | ⟨b,off,ha,h5,hl,r⟩⟩:=h
  · exact ⟨h3,.inl h4⟩
  · exact ⟨h3,.inr ⟨b,off,ha,by omega,by omega,r⟩⟩
def set4 (w:World) (b o:Nat) (r:Vr):World:=
  (((w.setCell ⟨b,o,none⟩ (.int .i64 r.t)).setCell ⟨b,o+1,none⟩ (.int .i64 r.a)).setCell ⟨b,o+2,none⟩ (.bool r.g)).setCell ⟨b,o+3,none⟩ (.int .i64 r.v)
theorem set4_far {w:World} {b o o':Nat} {r:Vr} (h:o'<o∨o+3<o'):(set4 w b o r).cell? ⟨b,o',none⟩=w.cell? ⟨b,o',none⟩:=by
  unfold set4;rw [setO (by omega),setO (by omega),setO (by omega),setO (by omega)]
theorem set4_same {w:World} {b o:Nat} {r r0:Vr} (h:C4 w b o r0):C4 (set4 w b o r) b o r:=by
  obtain ⟨h0,h1,h2,h3⟩:=h;unfold set4;refine ⟨?_,?_,?_,?_⟩
  · rw [setO (by omega),setO (by omega),setO (by omega)];exact setS h0
  · rw [setO (by omega),setO (by omega)];exact setS (by rw [setO (by omega)];exact h1)
  · rw [setO (by omega)];exact setS (by rw [setO (by omega),setO (by omega)];exact h2)
  · exact setS (by rw [setO (by omega),setO (by omega),setO (by omega)];exact h3)
theorem set4_frozen {w:World} {b o:Nat} {r:Vr} (h:∀i,w.frozen? ⟨b,i,none⟩=false):∀i,(set4 w b o r).frozen? ⟨b,i,none⟩=false:=fun i=>by
  unfold set4;rw [World.frozen?_setCell,World.frozen?_setCell,World.frozen?_setCell,World.frozen?_setCell];exact h i
theorem set4_writes {lo hi:Nat} {w wr:World} {b o:Nat} {r:Vr} (h:Writes lo hi w wr) (h1:lo≤b) (h2:b<hi):Writes lo hi w (set4 wr b o r):=by
  unfold set4;exact (((h.setCell (p:=⟨b,_,none⟩) h1 h2 _).setCell (p:=⟨b,_,none⟩) h1 h2 _).setCell (p:=⟨b,_,none⟩) h1 h2 _).setCell (p:=⟨b,_,none⟩) h1 h2 _
theorem set4_below {n:Nat} {w wr:World} {b o:Nat} {r:Vr} (h:Below n w wr) (h1:n≤b):Below n w (set4 wr b o r):=by
  unfold set4;exact (((h.setCell (p:=⟨b,_,none⟩) h1 _).setCell (p:=⟨b,_,none⟩) h1 _).setCell (p:=⟨b,_,none⟩) h1 _).setCell (p:=⟨b,_,none⟩) h1 _
theorem set4_size {w:World} {b o:Nat} {r:Vr}:(set4 w b o r).heap.size=w.heap.size:=by simp [set4,World.setCell]
theorem row4_set {w:World} {b off n k:Nat} {R:Nat→Vr} {r:Vr} (hlt:k<n) (h:Row4 w b off n R):Row4 (set4 w b (off+k*4) r) b off n (fun i=>if i=k then r else R i):=by
  refine ⟨fun i hi=>?_,set4_frozen h.2⟩
  by_cases e:i=k
  · subst e;simp only [if_true];exact set4_same (h.1 i hi)
  · simp only [if_neg e];have g:∀j,j<4→(set4 w b (off+k*4) r).cell? ⟨b,off+i*4+j,none⟩=w.cell? ⟨b,off+i*4+j,none⟩:=fun j hj=>set4_far (by omega);obtain ⟨h0,h1,h2,h3⟩:=h.1 i hi;exact ⟨(g 0 (by omega)).trans h0,(g 1 (by omega)).trans h1,(g 2 (by omega)).trans h2,(g 3 (by omega)).trans h3⟩
theorem row4_congr {w:World} {b off n:Nat} {R S:Nat→Vr} (h:Row4 w b off n R) (e:∀i,i<n→R i=S i):Row4 w b off n S:=⟨fun i hi=>by rw [←e i hi];exact h.1 i hi,h.2⟩
theorem row4_block {w w':World} {b off n:Nat} {R:Nat→Vr} (h:Row4 w b off n R) (hb:w'.heap[b]? = w.heap[b]?):Row4 w' b off n R:=
  ⟨fun i hi=>(h.1 i hi).block hb,fun i=>(World.frozen?_of_block (w:=w) (a:=⟨b,i,none⟩) hb).trans (h.2 i)⟩
theorem infoV:(Tryz.prog.info? 179).map (fun i=>(i.zero,i.size,i.bytes))=some (some (.agg #[.int .i64 0,.int .i64 0,.bool false,.int .i64 0]),4,32):=by kernel_rfl
def zV:Vr:=⟨0,0,false,0⟩
theorem drewB6 {w1 w2:World} (hb:Below w1.drew.heap.size w1.drew w2):Below w1.heap.size w1 w2:=((Below.refl _ _).drew).trans hb
end Go.Proofs.YtjdodbiphijjgaaGreat
