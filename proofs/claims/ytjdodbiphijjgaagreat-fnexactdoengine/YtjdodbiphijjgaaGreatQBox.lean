import Derived.Test.YtjdodbiphijjgaaGreatQBase
import Derived.Deep.RegionLaw
import Derived.Lib.SmallJoins
namespace Go.Proofs.YtjdodbiphijjgaaGreat
open Go.RowKit Go.Deep
set_option linter.unusedVariables false
set_option maxRecDepth 20000
def Box3 (w:World) (B:Nat) (c0 c1 c2:Value):Prop:=w.cell? ⟨B,0,none⟩=some c0∧w.cell? ⟨B,1,none⟩=some c1∧w.cell? ⟨B,2,none⟩=some c2
def Box4 (w:World) (B:Nat) (c0 c1 c2 c3:Value):Prop:=w.cell? ⟨B,0,none⟩=some c0∧w.cell? ⟨B,1,none⟩=some c1∧w.cell? ⟨B,2,none⟩=some c2∧w.cell? ⟨B,3,none⟩=some c3
def Box2 (w:World) (B:Nat) (c0 c1:Value):Prop:=w.cell? ⟨B,0,none⟩=some c0∧w.cell? ⟨B,1,none⟩=some c1
theorem cell_alloc {w:World} {B o:Nat} {v:Value} (h:w.cell? ⟨B,o,none⟩=some v) (x:Obj):(w.alloc x).cell? ⟨B,o,none⟩=some v:=by
  rw [World.cell?_alloc_lt _ _ _ (Go.block_lt_of_cell h)];exact h
theorem cell_writes {w w':World} {lo hi B o:Nat} {v:Value} (h:w.cell? ⟨B,o,none⟩=some v) (hw:Writes lo hi w w') (hd:B<lo∨hi≤B):w'.cell? ⟨B,o,none⟩=some v:=
  (hw.cell (Go.block_lt_of_cell h) hd o).trans h
theorem cell_below {w w':World} {B o:Nat} {v:Value} (h:w.cell? ⟨B,o,none⟩=some v) (hb:Below w.heap.size w w'):w'.cell? ⟨B,o,none⟩=some v:=
  (hb.cell (p:=⟨B,o,none⟩) (Go.block_lt_of_cell h)).trans h
theorem Box2.alloc {w:World} {B:Nat} {c0 c1:Value} (h:Box2 w B c0 c1) (x:Obj):Box2 (w.alloc x) B c0 c1:=⟨cell_alloc h.1 x,cell_alloc h.2 x⟩
theorem Box3.alloc {w:World} {B:Nat} {c0 c1 c2:Value} (h:Box3 w B c0 c1 c2) (x:Obj):Box3 (w.alloc x) B c0 c1 c2:=⟨cell_alloc h.1 x,cell_alloc h.2.1 x,cell_alloc h.2.2 x⟩
theorem Box4.alloc {w:World} {B:Nat} {c0 c1 c2 c3:Value} (h:Box4 w B c0 c1 c2 c3) (x:Obj):Box4 (w.alloc x) B c0 c1 c2 c3:=⟨cell_alloc h.1 x,cell_alloc h.2.1 x,cell_alloc h.2.2.1 x,cell_alloc h.2.2.2 x⟩
theorem Box2.below {w w':World} {B:Nat} {c0 c1:Value} (h:Box2 w B c0 c1) (x:Below w.heap.size w w'):Box2 w' B c0 c1:=⟨cell_below h.1 x,cell_below h.2 x⟩
theorem Box3.below {w w':World} {B:Nat} {c0 c1 c2:Value} (h:Box3 w B c0 c1 c2) (x:Below w.heap.size w w'):Box3 w' B c0 c1 c2:=⟨cell_below h.1 x,cell_below h.2.1 x,cell_below h.2.2 x⟩
theorem Box4.below {w w':World} {B:Nat} {c0 c1 c2 c3:Value} (h:Box4 w B c0 c1 c2 c3) (x:Below w.heap.size w w'):Box4 w' B c0 c1 c2 c3:=⟨cell_below h.1 x,cell_below h.2.1 x,cell_below h.2.2.1 x,cell_below h.2.2.2 x⟩
theorem Box2.writes {w w':World} {lo hi B:Nat} {c0 c1:Value} (h:Box2 w B c0 c1) (x:Writes lo hi w w') (d:B<lo∨hi≤B):Box2 w' B c0 c1:=⟨cell_writes h.1 x d,cell_writes h.2 x d⟩
theorem Box3.writes {w w':World} {lo hi B:Nat} {c0 c1 c2:Value} (h:Box3 w B c0 c1 c2) (x:Writes lo hi w w') (d:B<lo∨hi≤B):Box3 w' B c0 c1 c2:=⟨cell_writes h.1 x d,cell_writes h.2.1 x d,cell_writes h.2.2 x d⟩
theorem Box4.writes {w w':World} {lo hi B:Nat} {c0 c1 c2 c3:Value} (h:Box4 w B c0 c1 c2 c3) (x:Writes lo hi w w') (d:B<lo∨hi≤B):Box4 w' B c0 c1 c2 c3:=⟨cell_writes h.1 x d,cell_writes h.2.1 x d,cell_writes h.2.2.1 x d,cell_writes h.2.2.2 x d⟩
theorem Box2.new (w:World) (c0 c1:Value) (t:TypeId):Box2 (w.alloc (.cells #[c0,c1] t)) w.heap.size c0 c1:=by simp [Box2]
theorem Box3.new (w:World) (c0 c1 c2:Value) (t:TypeId):Box3 (w.alloc (.cells #[c0,c1,c2] t)) w.heap.size c0 c1 c2:=by simp [Box3]
theorem Box4.new (w:World) (c0 c1 c2 c3:Value) (t:TypeId):Box4 (w.alloc (.cells #[c0,c1,c2,c3] t)) w.heap.size c0 c1 c2 c3:=by simp [Box4]
theorem Box4.lt {w:World} {B:Nat} {c0 c1 c2 c3:Value} (h:Box4 w B c0 c1 c2 c3):B<w.heap.size:=Go.block_lt_of_cell h.1
theorem below_new (w:World) (o:Obj):Below w.heap.size w (w.alloc o):=(Below.refl _ _).alloc (Nat.le_refl _) _
def inB (v lo hi:Int):Bool:=decide (lo≤v) && decide (v≤hi)
theorem inB_iff {v lo hi:Int}:inB v lo hi=true↔lo≤v∧v≤hi:=by simp [inB]
theorem l1In_any (v lo hi:Int) (w:World):Calls Tryz.prog 75 #[.int .i64 v,.int .i64 lo,.int .i64 hi] w fun e w'=>e=.returned (.bool (inB v lo hi))∧w'=w:=by
  unfold inB
  by_cases h1:lo≤v
  · by_cases h2:v≤hi
    · go_enter Tryz.func75,Tryz.ntmps75;go_wp2;go_ret;exact ⟨ret_bool (by simp [h1,h2]),rfl⟩
    · have h3:decide (v≤hi)=false:=by simp;omega
      go_enter Tryz.func75,Tryz.ntmps75;go_wp2;go_ret;exact ⟨ret_bool (by simp),rfl⟩
  · have h3:decide (lo≤v)=false:=by simp;omega
    go_enter Tryz.func75,Tryz.ntmps75;go_wp2;go_ret;exact ⟨ret_bool (by simp),rfl⟩
theorem within_any (v lo hi:Int) (w:World):Calls Tryz.prog 145 #[.int .i64 v,.int .i64 lo,.int .i64 hi] w fun e w'=>e=.returned (.bool (inB v lo hi))∧w'=w:=by
  unfold inB
  by_cases h1:lo≤v
  · by_cases h2:v≤hi
    · go_enter Tryz.func145,Tryz.ntmps145;go_wp2;go_ret;exact ⟨ret_bool (by simp [h1,h2]),rfl⟩
    · have h3:decide (v≤hi)=false:=by simp;omega
      go_enter Tryz.func145,Tryz.ntmps145;go_wp2;go_ret;exact ⟨ret_bool (by simp),rfl⟩
  · have h3:decide (lo≤v)=false:=by simp;omega
    go_enter Tryz.func145,Tryz.ntmps145;go_wp2;go_ret;exact ⟨ret_bool (by simp),rfl⟩
theorem l1Key_any (v:Int) (w:World):Calls Tryz.prog 61 #[.int .i64 v] w fun e w'=>e=.returned (.bool (inB v 0 31))∧w'=w:=by
  go_enter Tryz.func61,Tryz.ntmps61;go_wp2_with (go_at_call 75;refine (l1In_any _ _ _ _).mono ?_;rintro e w' ⟨rfl,rfl⟩);go_ret;exact ⟨rfl,rfl⟩
theorem l1Value_any (v:Int) (w:World):Calls Tryz.prog 62 #[.int .i64 v] w fun e w'=>e=.returned (.bool (inB v 0 9999))∧w'=w:=by
  go_enter Tryz.func62,Tryz.ntmps62;go_wp2_with (go_at_call 75;refine (l1In_any _ _ _ _).mono ?_;rintro e w' ⟨rfl,rfl⟩);go_ret;exact ⟨rfl,rfl⟩
theorem isKey_any (v:Int) (w:World):Calls Tryz.prog 99 #[.int .i64 v] w fun e w'=>e=.returned (.bool (inB v 0 31))∧w'=w:=by
  go_enter Tryz.func99,Tryz.ntmps99;go_wp2_with (go_at_call 145;refine (within_any _ _ _ _).mono ?_;rintro e w' ⟨rfl,rfl⟩);go_ret;exact ⟨rfl,rfl⟩
theorem isValue_any (v:Int) (w:World):Calls Tryz.prog 120 #[.int .i64 v] w fun e w'=>e=.returned (.bool (inB v 0 9999))∧w'=w:=by
  go_enter Tryz.func120,Tryz.ntmps120;go_wp2_with (go_at_call 145;refine (within_any _ _ _ _).mono ?_;rintro e w' ⟨rfl,rfl⟩);go_ret;exact ⟨rfl,rfl⟩
structure Vr where
  t:Int
  a:Int
  g:Bool
  v:Int
def C4 (w:World) (b o:Nat) (r:Vr):Prop:=
  w.cell? ⟨b,o,none⟩=some (.int .i64 r.t)∧w.cell? ⟨b,o+1,none⟩=some (.int .i64 r.a)∧w.cell? ⟨b,o+2,none⟩=some (.bool r.g)∧w.cell? ⟨b,o+3,none⟩=some (.int .i64 r.v)
theorem C4.block {w w':World} {b o:Nat} {r:Vr} (h:C4 w b o r) (e:w'.heap[b]? = w.heap[b]?):C4 w' b o r:=by
  have g:∀i,w'.cell? ⟨b,i,none⟩=w.cell? ⟨b,i,none⟩:=fun i=>World.cell?_of_block (w:=w) (a:=⟨b,i,none⟩) e;obtain ⟨h0,h1,h2,h3⟩:=h;exact ⟨(g _).trans h0,(g _).trans h1,(g _).trans h2,(g _).trans h3⟩
def VersAt (w:World) (a:Option Addr) (n:Nat) (R:Nat→Vr):Prop:=n=0∨∃b off,a=some ⟨b,off,none⟩∧b<w.heap.size∧∀i,i<n→C4 w b (off+i*4) (R i)
def Row4 (w:World) (b off n:Nat) (R:Nat→Vr):Prop:=(∀i,i<n→C4 w b (off+i*4) (R i))∧∀i,w.frozen? ⟨b,i,none⟩=false
def Own4 (w:World) (lo hi:Nat) (a:Option Addr) (n:Nat) (R:Nat→Vr):Prop:=hi≤w.heap.size∧(n=0∨∃b off,a=some ⟨b,off,none⟩∧lo≤b∧b<hi∧Row4 w b off n R)
theorem VersAt.below {w w':World} {a:Option Addr} {n:Nat} {R:Nat→Vr} (h:VersAt w a n R) (hb:Below w.heap.size w w'):VersAt w' a n R:=by
  rcases h with h | ⟨b,off,ha,hl,hc⟩
  · exact .inl h
  · exact .inr ⟨b,off,ha,Nat.lt_of_lt_of_le hl hb.size,fun i hi=>(hc i hi).block (hb.block _ hl)⟩
theorem VersAt.congr {w:World} {a:Option Addr} {n:Nat} {R S:Nat→Vr} (h:VersAt w a n R) (e:∀i,i<n→R i=S i):VersAt w a n S:=by
  rcases h with h | ⟨b,off,ha,hl,hc⟩
  · exact .inl h
  · exact .inr ⟨b,off,ha,hl,fun i hi=>by rw [←e i hi];exact hc i hi⟩
theorem Own4.at {w:World} {lo hi:Nat} {a:Option Addr} {n:Nat} {R:Nat→Vr} (h:Own4 w lo hi a n R):VersAt w a n R:=by
  obtain ⟨h0,h1 | ⟨b,off,ha,_,hl,hc⟩⟩:=h
  · exact .inl h1
  · exact .inr ⟨b,off,ha,by omega,hc.1⟩
theorem Own4.congr {w:World} {lo hi:Nat} {a:Option Addr} {n:Nat} {R S:Nat→Vr} (h:Own4 w lo hi a n R) (e:∀i,i<n→R i=S i):Own4 w lo hi a n S:=by
  obtain ⟨h0,h1 | ⟨b,off,ha,h2,hl,hc⟩⟩:=h
  · exact ⟨h0,.inl h1⟩
  · exact ⟨h0,.inr ⟨b,off,ha,h2,hl,fun i hi=>by rw [←e i hi];exact hc.1 i hi,hc.2⟩⟩
theorem Own4.writes {w w':World} {lo hi lo' hi':Nat} {a:Option Addr} {n:Nat} {R:Nat→Vr} (h:Own4 w lo hi a n R) (hw:Writes lo' hi' w w') (hd:hi≤lo'∨hi'≤lo):Own4 w' lo hi a n R:=by
  obtain ⟨h0,h1 | ⟨b,off,ha,h2,hl,hc⟩⟩:=h
  · exact ⟨Nat.le_trans h0 hw.size,.inl h1⟩
  · have hb:=hw.block b (by omega) (by omega);exact ⟨Nat.le_trans h0 hw.size,.inr ⟨b,off,ha,h2,hl,fun i hi=>(hc.1 i hi).block hb,fun i=>(World.frozen?_of_block (w:=w) (a:=⟨b,i,none⟩) hb).trans (hc.2 i)⟩⟩
theorem Own4.below {w w':World} {lo hi:Nat} {a:Option Addr} {n:Nat} {R:Nat→Vr} (h:Own4 w lo hi a n R) (hb:Below w.heap.size w w'):Own4 w' lo hi a n R:=
  h.writes (Writes.of_below (lo:=hi) (hi:=hi) hb) (.inl (Nat.le_refl _))
theorem Own4.wide {w:World} {lo hi lo' hi':Nat} {a:Option Addr} {n:Nat} {R:Nat→Vr} (h:Own4 w lo hi a n R) (h1:lo'≤lo) (h2:hi≤hi') (h3:hi'≤w.heap.size):Own4 w lo' hi' a n R:=by
  obtain ⟨h0,h4 | ⟨b,off,ha,h5,hl,r⟩⟩:=h
  · exact ⟨h3,.inl h4⟩
  · exact ⟨h3,.inr ⟨b,off,ha,by omega,by omega,r⟩⟩
def set4 (w:World) (b o:Nat) (r:Vr):World:=
  (((w.setCell ⟨b,o,none⟩ (.int .i64 r.t)).setCell ⟨b,o+1,none⟩ (.int .i64 r.a)).setCell ⟨b,o+2,none⟩ (.bool r.g)).setCell ⟨b,o+3,none⟩ (.int .i64 r.v)
theorem set4_far {w:World} {b o o':Nat} {r:Vr} (h:o'<o∨o+3<o'):(set4 w b o r).cell? ⟨b,o',none⟩=w.cell? ⟨b,o',none⟩:=by
  unfold set4;rw [setO (by omega),setO (by omega),setO (by omega),setO (by omega)]
theorem set4_same {w:World} {b o:Nat} {r r0:Vr} (h:C4 w b o r0):C4 (set4 w b o r) b o r:=by
  obtain ⟨h0,h1,h2,h3⟩:=h;unfold set4;refine ⟨?_,?_,?_,?_⟩
  · rw [setO (by omega),setO (by omega),setO (by omega)];exact setS h0
  · rw [setO (by omega),setO (by omega)];exact setS (by rw [setO (by omega)];exact h1)
  · rw [setO (by omega)];exact setS (by rw [setO (by omega),setO (by omega)];exact h2)
  · exact setS (by rw [setO (by omega),setO (by omega),setO (by omega)];exact h3)
theorem set4_frozen {w:World} {b o:Nat} {r:Vr} (h:∀i,w.frozen? ⟨b,i,none⟩=false):∀i,(set4 w b o r).frozen? ⟨b,i,none⟩=false:=fun i=>by
  unfold set4;rw [World.frozen?_setCell,World.frozen?_setCell,World.frozen?_setCell,World.frozen?_setCell];exact h i
theorem set4_writes {lo hi:Nat} {w wr:World} {b o:Nat} {r:Vr} (h:Writes lo hi w wr) (h1:lo≤b) (h2:b<hi):Writes lo hi w (set4 wr b o r):=by
  unfold set4;exact (((h.setCell (p:=⟨b,_,none⟩) h1 h2 _).setCell (p:=⟨b,_,none⟩) h1 h2 _).setCell (p:=⟨b,_,none⟩) h1 h2 _).setCell (p:=⟨b,_,none⟩) h1 h2 _
theorem set4_below {n:Nat} {w wr:World} {b o:Nat} {r:Vr} (h:Below n w wr) (h1:n≤b):Below n w (set4 wr b o r):=by
  unfold set4;exact (((h.setCell (p:=⟨b,_,none⟩) h1 _).setCell (p:=⟨b,_,none⟩) h1 _).setCell (p:=⟨b,_,none⟩) h1 _).setCell (p:=⟨b,_,none⟩) h1 _
theorem set4_size {w:World} {b o:Nat} {r:Vr}:(set4 w b o r).heap.size=w.heap.size:=by simp [set4,World.setCell]
theorem row4_set {w:World} {b off n k:Nat} {R:Nat→Vr} {r:Vr} (hlt:k<n) (h:Row4 w b off n R):Row4 (set4 w b (off+k*4) r) b off n (fun i=>if i=k then r else R i):=by
  refine ⟨fun i hi=>?_,set4_frozen h.2⟩
  by_cases e:i=k
  · subst e;simp only [if_true];exact set4_same (h.1 i hi)
  · simp only [if_neg e];have g:∀j,j<4→(set4 w b (off+k*4) r).cell? ⟨b,off+i*4+j,none⟩=w.cell? ⟨b,off+i*4+j,none⟩:=fun j hj=>set4_far (by omega);obtain ⟨h0,h1,h2,h3⟩:=h.1 i hi;exact ⟨(g 0 (by omega)).trans h0,(g 1 (by omega)).trans h1,(g 2 (by omega)).trans h2,(g 3 (by omega)).trans h3⟩
theorem row4_congr {w:World} {b off n:Nat} {R S:Nat→Vr} (h:Row4 w b off n R) (e:∀i,i<n→R i=S i):Row4 w b off n S:=⟨fun i hi=>by rw [←e i hi];exact h.1 i hi,h.2⟩
theorem row4_block {w w':World} {b off n:Nat} {R:Nat→Vr} (h:Row4 w b off n R) (hb:w'.heap[b]? = w.heap[b]?):Row4 w' b off n R:=
  ⟨fun i hi=>(h.1 i hi).block hb,fun i=>(World.frozen?_of_block (w:=w) (a:=⟨b,i,none⟩) hb).trans (h.2 i)⟩
theorem toVersion_any (t a:Int) (g:Bool) (v:Int) (w:World):Calls Tryz.prog 215 #[.agg #[.int .i64 t,.int .i64 a,.bool g,.int .i64 v]] w fun e w'=>
    e=.returned (.agg #[.int .i64 t,.int .i64 a,.bool g,.int .i64 v])∧Below w.heap.size w w':=by
  go_enter Tryz.func215,Tryz.ntmps215;go_wp2_with fail;refine bodyPost_ret (v:=.agg #[.int .i64 t,.int .i64 a,.bool g,.int .i64 v]) (by simp [results,Tryz.results215,go_sem]) rfl ⟨rfl,?_⟩
  repeat (first | exact Below.refl _ _ | apply Below.drew | refine Below.setCell ?_ (by first | omega | (simp <;> omega)) _ | refine Below.alloc ?_ (by first | omega | (simp <;> omega)) _)
theorem infoV:(Tryz.prog.info? 179).map (fun i=>(i.zero,i.size,i.bytes))=some (some (.agg #[.int .i64 0,.int .i64 0,.bool false,.int .i64 0]),4,32):=by kernel_rfl
theorem run_make_vers (n:Nat) (hn:n≤1048576) (w:World) :
    (Instr.makeSlice 155 (.int .i64 (n:Int)) (.int .i64 (n:Int))).run Tryz.prog w=.ok (.slice (some ⟨w.heap.size,0,none⟩) n n) (w.alloc (.cells (madeCells #[.int .i64 0,.int .i64 0,.bool false,.int .i64 0] (n*4)) 179)):=by
  obtain ⟨i,hi,hzz⟩:=Option.map_eq_some_iff.1 infoV;simp only [Prod.mk.injEq] at hzz;obtain ⟨hz,hs,hb⟩:=hzz;have hr:=run_make (P:=Tryz.prog) w 155 179 i _ Tryz.underlying155 hi hz .i64 .i64 n n (by omega) (Int.le_refl _) (by rw [hb];omega) (by omega);simp only [Int.toNat_natCast,hs] at hr;exact hr
def zV:Vr:=⟨0,0,false,0⟩
theorem made_vers (w:World) (n:Nat):Row4 (w.alloc (.cells (madeCells #[.int .i64 0,.int .i64 0,.bool false,.int .i64 0] (n*4)) 179)) w.heap.size 0 n (fun _=>zV):=by
  refine ⟨fun i hi=>?_,fun i=>by simp [go_sem]⟩
  have c:∀j,j<4→(w.alloc (.cells (madeCells #[.int .i64 0,.int .i64 0,.bool false,.int .i64 0] (n*4)) 179)).cell? ⟨w.heap.size,0+i*4+j,none⟩=(#[Value.int .i64 0,.int .i64 0,.bool false,.int .i64 0])[j]?:=fun j hj=>by
    have l:i*4+j<n*4:=(by omega);have:j=0∨j=1∨j=2∨j=3:=(by omega)
    rcases this with rfl | rfl | rfl | rfl <;> simp [go_sem,madeCells] <;> exact ⟨_,by rw [Array.getElem?_range,if_pos (by omega)],by simp [Nat.add_mod]⟩
  exact ⟨c 0 (by omega),c 1 (by omega),c 2 (by omega),c 3 (by omega)⟩
def toK (R:Nat→Vr) (k i:Nat):Vr:=if i<k then R i else zV
theorem toK_step (R:Nat→Vr) (k i:Nat):(if i=k then R k else toK R k i)=toK R (k+1) i:=by
  unfold toK
  by_cases e:i=k
  · subst e;simp
  · rw [if_neg e];have:(i<k+1)↔(i<k):=(by omega);simp only [this]
set_option maxHeartbeats 1000000 in
theorem toVersionS_some (n:Nat) (R:Nat→Vr) (b off cap:Nat) (w:World) (hn:n≤1048576) (hbl:b<w.heap.size) (hc:∀i,i<n→C4 w b (off+i*4) (R i)) :
    Calls Tryz.prog 178 #[.slice (some ⟨b,off,none⟩) n cap] w fun e w'=>
      e=.returned (.slice (some ⟨w.heap.size,0,none⟩) n n)∧Below w.heap.size w w'∧w.heap.size<w'.heap.size∧Row4 w' w.heap.size 0 n R:=by
  have HC:Hid (∀i,i<n→C4 w b (off+i*4) (R i)):=hc;have hmk:=run_make_vers n hn;clear hc;go_enter Tryz.func178,Tryz.ntmps178;go_wp2_with fail;clear hmk;go_loopw [4] (fun i wr=>∃k:Nat,k≤n∧i=.int .i64 k∧Hid (Below w.heap.size w wr)∧w.heap.size<wr.heap.size∧Hid (Row4 wr w.heap.size 0 n (toK R k))) (fun i _=>n-(intOf i).toNat)
  case atStart=>exact ⟨0,Nat.zero_le _,rfl,(Below.refl _ _).alloc (Nat.le_refl _) _,by simp,row4_congr (made_vers w n) (fun i _=>by simp [toK])⟩
  case round=>
    obtain ⟨k,hk0,rfl,HB,hsz,HR⟩:=hrel
    by_cases hlt:k<n
    · obtain ⟨x0,x1,x2,x3⟩:=(HC.out k hlt).block (HB.out.block _ hbl);obtain ⟨y0,y1,y2,y3⟩:=HR.out.1 k hlt;have hf:=HR.out.2;have hlt':(k:Int)<(n:Int):=(by omega);have hk1:(0:Int)≤(k:Int):=(by omega);generalize hr0:toK R k k=r0 at *;go_wp2_with fail;refine (toVersion_any _ _ _ _ wr).mono ?_;rintro e w1 ⟨rfl,hb1⟩;have HR1:Hid (Row4 w1 w.heap.size 0 n (toK R k)):=row4_block HR.out (hb1.block _ hsz);have HB1:Hid (Below w.heap.size w w1):=below_then HB.out hb1;have hs1:w.heap.size<w1.heap.size:=Nat.lt_of_lt_of_le hsz hb1.size;replace y0:=cell_below y0 hb1;replace y1:=cell_below y1 hb1;replace y2:=cell_below y2 hb1;replace y3:=cell_below y3 hb1;replace hf:=HR1.out.2;rw [Nat.zero_add] at y0 y1 y2 y3;clear x0 x1 x2 x3 hb1;go_wp2_with fail;go_roundw
      case rel=>
        have HS:Row4 (set4 w1 w.heap.size (0+k*4) (R k)) w.heap.size 0 n (toK R (k+1)):=row4_congr (row4_set hlt HR1.out) (fun i _=>toK_step R k i);rw [Nat.zero_add] at HS;exact ⟨k+1,hlt,by go_num,set4_below (r:=R k) (o:=k*4) HB1.out (Nat.le_refl _),by rw [show ((((w1.setCell ⟨w.heap.size,k*4,none⟩ (.int .i64 (R k).t)).setCell ⟨w.heap.size,k*4+1,none⟩ (.int .i64 (R k).a)).setCell ⟨w.heap.size,k*4+2,none⟩ (.bool (R k).g)).setCell ⟨w.heap.size,k*4+3,none⟩ (.int .i64 (R k).v)).heap.size=w1.heap.size from set4_size (r:=R k) (o:=k*4)];exact hs1,HS⟩
      case measure=>simp [intOf];omega
    · have hkn:k=n:=by omega
      have HR1:Hid (Row4 wr w.heap.size 0 n R):=row4_congr HR.out (fun i hi=>by simp [toK,hkn,hi]);have hnl:¬((k:Int)<(n:Int)):=(by omega);go_wp2_with fail;go_ret;exact ⟨rfl,HB.out,hsz,HR1.out⟩
theorem toVersionS_zero (a:Option Addr) (cap:Nat) (w:World) :
    Calls Tryz.prog 178 #[.slice a 0 cap] w fun e w'=>e=.returned (.slice (some ⟨w.heap.size,0,none⟩) 0 0)∧Below w.heap.size w w'∧w.heap.size<w'.heap.size:=by
  have hmk:∀w,(Instr.makeSlice 155 (.int .i64 0) (.int .i64 0)).run Tryz.prog w=.ok (.slice (some ⟨w.heap.size,0,none⟩) 0 0) (w.alloc (.cells #[] 179)):=fun w=>by
    have h:=run_make_vers 0 (by omega) w;rw [made_none] at h;exact h
  go_enter Tryz.func178,Tryz.ntmps178;go_wp2;go_loop [4] (fun i=>i=.int .i64 0) (fun _=>0)
  case atStart=>exact rfl
  case round=>
    obtain rfl:=hrel;go_wp2;go_ret;exact ⟨rfl,(Below.refl _ _).alloc (Nat.le_refl _) _,by simp⟩
theorem toVersionS_any (n:Nat) (R:Nat→Vr) (a:Option Addr) (cap:Nat) (w:World) (hn:n≤1048576) (h:VersAt w a n R) :
    Calls Tryz.prog 178 #[.slice a n cap] w fun e w'=>∃b,
      e=.returned (.slice (some ⟨b,0,none⟩) n n)∧Below w.heap.size w w'∧Own4 w' w.heap.size w'.heap.size (some ⟨b,0,none⟩) n R:=by
  rcases h with rfl | ⟨b,off,rfl,hbl,hc⟩
  · refine (toVersionS_zero a cap w).mono ?_;rintro e w' ⟨rfl,hb,_⟩;exact ⟨_,rfl,hb,Nat.le_refl _,.inl rfl⟩
  · refine (toVersionS_some n R b off cap w hn hbl hc).mono ?_;rintro e w' ⟨rfl,hb,hs,hr⟩;exact ⟨_,rfl,hb,Nat.le_refl _,.inr ⟨_,0,rfl,Nat.le_refl _,hs,hr⟩⟩
theorem eqVersion_same (t a:Int) (g:Bool) (v:Int) (w:World) :
    Calls Tryz.prog 221 #[.agg #[.int .i64 t,.int .i64 a,.bool g,.int .i64 v],.agg #[.int .i64 t,.int .i64 a,.bool g,.int .i64 v]] w fun e w'=>e=.returned (.bool true)∧Below w.heap.size w w':=by
  have hb0:∀o1 o2,Below w.heap.size w ((w.alloc o1).alloc o2):=fun o1 o2=>((Below.refl _ _).alloc (Nat.le_refl _) _).alloc (by simp) _;have e1:(g != g)=false:=(by simp);go_enter Tryz.func221,Tryz.ntmps221;go_wp2_with fail;go_ret;exact ⟨rfl,hb0 _ _⟩
theorem eqVersionS_zero (a a':Option Addr) (cap cap':Nat) (w:World):Calls Tryz.prog 184 #[.slice a 0 cap,.slice a' 0 cap'] w fun e w'=>e=.returned (.bool true)∧Below w.heap.size w w':=by
  go_enter Tryz.func184,Tryz.ntmps184;go_wp2_with fail;go_loop [5] (fun i=>i=.int .i64 0) (fun _=>0)
  case atStart=>exact rfl
  case round=>
    obtain rfl:=hrel;go_wp2_with fail;go_ret;exact ⟨rfl,Below.refl _ _⟩
theorem drewB6 {w1 w2:World} (hb:Below w1.drew.heap.size w1.drew w2):Below w1.heap.size w1 w2:=((Below.refl _ _).drew).trans hb
set_option maxHeartbeats 2000000 in
theorem eqVersionS_some (n:Nat) (R:Nat→Vr) (b off cap b' off' cap':Nat) (w:World) (hn:n≤1048576) (hbl:b<w.heap.size) (hbl':b'<w.heap.size) (hc:∀i,i<n→C4 w b (off+i*4) (R i)) (hc':∀i,i<n→C4 w b' (off'+i*4) (R i)) :
    Calls Tryz.prog 184 #[.slice (some ⟨b,off,none⟩) n cap,.slice (some ⟨b',off',none⟩) n cap'] w fun e w'=>e=.returned (.bool true)∧Below w.heap.size w w':=by
  have HC:Hid (∀i,i<n→C4 w b (off+i*4) (R i)):=hc;have HC':Hid (∀i,i<n→C4 w b' (off'+i*4) (R i)):=hc';have hne:((n:Int) != (n:Int))=false:=(by simp);clear hc hc';go_enter Tryz.func184,Tryz.ntmps184;go_wp2_with fail;go_loopw [5] (fun i wr=>∃k:Nat,k≤n∧i=.int .i64 k∧Hid (Below w.heap.size w wr)) (fun i _=>n-(intOf i).toNat)
  case atStart=>exact ⟨0,Nat.zero_le _,rfl,Below.refl _ _⟩
  case round=>
    obtain ⟨k,hk,rfl,HB⟩:=hrel
    by_cases hlt:k<n
    · have hlt':(k:Int)<(n:Int):=by omega
      have hk0:(0:Int)≤(k:Int):=(by omega);obtain ⟨x0,x1,x2,x3⟩:=(HC.out k hlt).block (HB.out.block _ hbl);obtain ⟨y0,y1,y2,y3⟩:=(HC'.out k hlt).block (HB.out.block _ hbl');generalize R k=r at *;go_wp2_with fail;go_region_law (first | (go_simp;go_at_call 221;refine (eqVersion_same r.t r.a r.g r.v _).mono ?_;rintro e w1 ⟨rfl,hb1⟩;have HB1:Hid (Below w.heap.size w w1):=below_then HB.out (drewB6 hb1)))
      all_goals
        go_wp2_with fail;go_roundw
        case rel=>exact ⟨k+1,hlt,by go_num,HB1⟩
        case measure=>simp [intOf];omega
    · have hnl:¬((k:Int)<(n:Int)):=by omega
      go_wp2_with fail;go_ret;exact ⟨rfl,HB.out⟩
theorem eqVersionS_any (n:Nat) (R:Nat→Vr) (a a':Option Addr) (cap cap':Nat) (w:World) (hn:n≤1048576) (h:VersAt w a n R) (h':VersAt w a' n R) :
    Calls Tryz.prog 184 #[.slice a n cap,.slice a' n cap'] w fun e w'=>e=.returned (.bool true)∧Below w.heap.size w w':=by
  rcases h with rfl | ⟨b,off,rfl,hl,hc⟩
  · exact eqVersionS_zero a a' cap cap' w
  · rcases h' with rfl | ⟨b',off',rfl,hl',hc'⟩
    · exact eqVersionS_zero _ a' cap cap' w
    · exact eqVersionS_some n R b off cap b' off' cap' w hn hl hl' hc hc'
end Go.Proofs.YtjdodbiphijjgaaGreat
