import Derived.Test.YtjdodbiphijjgaaGreatRows
import Derived.WalkKit
import Derived.WalkSpells
import Derived.ProofKit
import Derived.OpenShut
import Derived.ShutString
import Derived.ChangeOld
import Derived.Below
import Derived.Outline
import Derived.Deep.OwnRows
import Derived.Deep.LoopGhost
import Derived.Deep.QuietTactic
import Derived.BigQuiet
import Derived.WalkSmall
import Derived.Deep.Slices
import Derived.Deep.SlicePairs
import Derived.Deep.RegionHeld3
namespace Go.Proofs.YtjdodbiphijjgaaGreat
open Go.RowKit Go.Deep
set_option linter.unusedVariables false
theorem own:ownKnob Tryz.prog.godebug=none:=by kernel_rfl
theorem laidOut:laidOutB Tryz.prog=true:=by kernel_rfl
theorem ret_int {k:IntKind} {a b:Int} (h:a=b):Ending.returned (.int k a)=.returned (.int k b):=by rw [h]
theorem ret_bool {a b:Bool} (h:a=b):Ending.returned (.bool a)=.returned (.bool b):=by rw [h]
theorem bcell {W w1:World} (hb:Below W.heap.size W w1):(∀b o,b<W.heap.size→w1.cell? ⟨b,o,none⟩=W.cell? ⟨b,o,none⟩)∧(∀b o,b<W.heap.size→w1.frozen? ⟨b,o,none⟩=W.frozen? ⟨b,o,none⟩):=
  ⟨fun b o h=>hb.cell (p:=⟨b,o,none⟩) h,fun b o h=>hb.frozen (p:=⟨b,o,none⟩) h⟩
theorem below_then {w w1 w2:World} (h:Below w.heap.size w w1) (k:Below w1.heap.size w1 w2):Below w.heap.size w w2:=h.trans (k.mono h.size)
theorem made_none (z:Array Value):madeCells z 0=#[]:=Array.eq_empty_of_size_eq_zero (size_madeCells _ _)
def cv (K V:Nat→Int) (j:Nat):Value:=.int .i64 (if j % 2=0 then K (j / 2) else V (j / 2))
theorem cv_key (K V:Nat→Int) (i:Nat):cv K V (i*2)=.int .i64 (K i):=by unfold cv;rw [if_pos (by omega)];congr 2;omega
theorem cv_val (K V:Nat→Int) (i:Nat):cv K V (i*2+1)=.int .i64 (V i):=by unfold cv;rw [if_neg (by omega)];congr 2;omega
def CellsAt (w:World) (a:Option Addr) (n:Nat) (K V:Nat→Int):Prop:=
  n=0∨∃b off,a=some ⟨b,off,none⟩∧b<w.heap.size∧(∀i,i<n→w.cell? ⟨b,off+i*2,none⟩=some (.int .i64 (K i)))∧(∀i,i<n→w.cell? ⟨b,off+i*2+1,none⟩=some (.int .i64 (V i)))
def Own (w:World) (lo hi:Nat) (a:Option Addr) (n:Nat) (K V:Nat→Int):Prop:=
  hi≤w.heap.size∧(n=0∨∃b off,a=some ⟨b,off,none⟩∧lo≤b∧b<hi∧(∀i,i<n→w.cell? ⟨b,off+i*2,none⟩=some (.int .i64 (K i)))∧(∀i,i<n→w.cell? ⟨b,off+i*2+1,none⟩=some (.int .i64 (V i)))∧
    (∀i,i<n→w.frozen? ⟨b,off+i*2,none⟩=false)∧(∀i,i<n→w.frozen? ⟨b,off+i*2+1,none⟩=false))
structure Writes (lo hi:Nat) (w w':World):Prop where
  os:w'.os=w.os
  tape:w'.tape=w.tape
  output:w'.output=w.output
  size:w.heap.size≤w'.heap.size
  block:∀k,k<w.heap.size→(k<lo∨hi≤k)→w'.heap[k]? = w.heap[k]?
theorem Writes.refl (lo hi:Nat) (w:World):Writes lo hi w w:=⟨rfl,rfl,rfl,Nat.le_refl _,fun _ _ _=>rfl⟩
theorem Writes.trans {lo hi:Nat} {a b c:World} (h:Writes lo hi a b) (k:Writes lo hi b c):Writes lo hi a c:=
  ⟨k.os.trans h.os,k.tape.trans h.tape,k.output.trans h.output,Nat.le_trans h.size k.size,fun i hi1 hi2=>(k.block i (Nat.lt_of_lt_of_le hi1 h.size) hi2).trans (h.block i hi1 hi2)⟩
theorem Writes.of_below {lo hi:Nat} {w w':World} (h:Below w.heap.size w w'):Writes lo hi w w':=⟨h.os,h.tape,h.output,h.size,fun k hk _=>h.block k hk⟩
theorem Writes.below {lo hi:Nat} {W w w':World} (h0:Below W.heap.size W w) (h:Writes lo hi w w') (hlo:W.heap.size≤lo):Below W.heap.size W w':=
  ⟨h.os.trans h0.os,h.tape.trans h0.tape,h.output.trans h0.output,Nat.le_trans h0.size h.size,fun k hk=>(h.block k (Nat.lt_of_lt_of_le hk h0.size) (.inl (Nat.lt_of_lt_of_le hk hlo))).trans (h0.block k hk)⟩
theorem Writes.setCell {lo hi:Nat} {w w':World} (h:Writes lo hi w w') {p:Addr} (h1:lo≤p.block) (h2:p.block<hi) (v:Value):Writes lo hi w (w'.setCell p v):=
  ⟨h.os,h.tape,h.output,by simpa [World.setCell] using h.size,fun k hk hk2=>(Below.heap_setCell _ _ _ _ (by omega)).trans (h.block k hk hk2)⟩
theorem Writes.alloc {lo hi:Nat} {w w':World} (h:Writes lo hi w w') (o:Obj):Writes lo hi w (w'.alloc o):=
  ⟨h.os,h.tape,h.output,by have:=h.size;simp;omega,fun k hk hk2=>(Below.heap_alloc _ _ _ (by have:=h.size;omega)).trans (h.block k hk hk2)⟩
theorem Writes.cell {lo hi:Nat} {w w':World} (h:Writes lo hi w w') {b:Nat} (h1:b<w.heap.size) (h2:b<lo∨hi≤b) (o:Nat):w'.cell? ⟨b,o,none⟩=w.cell? ⟨b,o,none⟩:=
  World.cell?_of_block (w:=w) (h.block b h1 h2)
theorem Own.at {w:World} {lo hi:Nat} {a:Option Addr} {n:Nat} {K V:Nat→Int} (h:Own w lo hi a n K V):CellsAt w a n K V:=by
  obtain ⟨h0,h1 | ⟨b,off,ha,_,hl,hk,hv,_,_⟩⟩:=h
  · exact .inl h1
  · exact .inr ⟨b,off,ha,by omega,hk,hv⟩
theorem CellsAt.writes {w w':World} {a:Option Addr} {n:Nat} {K V:Nat→Int} {lo hi:Nat} (h:CellsAt w a n K V) (hw:Writes lo hi w w') (hlo:w.heap.size≤lo):CellsAt w' a n K V:=by
  rcases h with h | ⟨b,off,ha,hl,hk,hv⟩
  · exact .inl h
  · exact .inr ⟨b,off,ha,Nat.lt_of_lt_of_le hl hw.size,fun i hi=>(hw.cell hl (.inl (by omega)) _).trans (hk i hi),fun i hi=>(hw.cell hl (.inl (by omega)) _).trans (hv i hi)⟩
theorem CellsAt.below {w w':World} {a:Option Addr} {n:Nat} {K V:Nat→Int} (h:CellsAt w a n K V) (hb:Below w.heap.size w w'):CellsAt w' a n K V:=
  h.writes (Writes.of_below (lo:=w.heap.size) (hi:=0) hb) (Nat.le_refl _)
theorem Own.writes {w w':World} {lo hi lo' hi':Nat} {a:Option Addr} {n:Nat} {K V:Nat→Int} (h:Own w lo hi a n K V) (hw:Writes lo' hi' w w') (hd:hi≤lo'∨hi'≤lo):Own w' lo hi a n K V:=by
  obtain ⟨h0,h1 | ⟨b,off,ha,h2,hl,hk,hv,hf,hg⟩⟩:=h
  · exact ⟨Nat.le_trans h0 hw.size,.inl h1⟩
  · have hb:=hw.block b (by omega) (by omega)
    exact ⟨Nat.le_trans h0 hw.size,.inr ⟨b,off,ha,h2,hl,fun i hi=>(World.cell?_of_block (w:=w) (a:=⟨b,_,none⟩) hb).trans (hk i hi),fun i hi=>(World.cell?_of_block (w:=w) (a:=⟨b,_,none⟩) hb).trans (hv i hi),
      fun i hi=>(World.frozen?_of_block (w:=w) (a:=⟨b,_,none⟩) hb).trans (hf i hi),fun i hi=>(World.frozen?_of_block (w:=w) (a:=⟨b,_,none⟩) hb).trans (hg i hi)⟩⟩
theorem Own.below {w w':World} {lo hi:Nat} {a:Option Addr} {n:Nat} {K V:Nat→Int} (h:Own w lo hi a n K V) (hb:Below w.heap.size w w'):Own w' lo hi a n K V:=
  h.writes (Writes.of_below (lo:=hi) (hi:=hi) hb) (.inl (Nat.le_refl _))
theorem Own.wide {w:World} {lo hi lo' hi':Nat} {a:Option Addr} {n:Nat} {K V:Nat→Int} (h:Own w lo hi a n K V) (h1:lo'≤lo) (h2:hi≤hi') (h3:hi'≤w.heap.size):Own w lo' hi' a n K V:=by
  obtain ⟨h0,h4 | ⟨b,off,ha,h5,hl,r⟩⟩:=h
  · exact ⟨h3,.inl h4⟩
  · exact ⟨h3,.inr ⟨b,off,ha,by omega,by omega,r⟩⟩
theorem Own.of_row {w:World} {b n:Nat} {K V:Nat→Int} (h:w.rowIs b 114 (n*2) (cv K V)):Own w b (b+1) (some ⟨b,0,none⟩) n K V:=
  ⟨h.lt,.inr ⟨b,0,rfl,Nat.le_refl _,by omega,fun i hi=>by have:=h.cell (i:=i*2) (by omega);rw [cv_key] at this;simpa using this,fun i hi=>by have:=h.cell (i:=i*2+1) (by omega);rw [cv_val] at this;simpa using this,
    fun i _=>h.frozen _,fun i _=>h.frozen _⟩⟩
theorem info99:(Tryz.prog.info? 114).map (fun i=>(i.zero,i.size,i.bytes))=some (some (.agg #[.int .i64 0,.int .i64 0]),2,16):=by kernel_rfl
theorem run_make_cells (n:Nat) (hn:n≤8796093022208) (w:World) :
    (Instr.makeSlice 44 (.int .i64 (n:Int)) (.int .i64 (n:Int))).run Tryz.prog w=.ok (.slice (some ⟨w.heap.size,0,none⟩) n n) (w.alloc (.cells (madeCells #[.int .i64 0,.int .i64 0] (n*2)) 114)):=by
  obtain ⟨i,hi,hzz⟩:=Option.map_eq_some_iff.1 info99;simp only [Prod.mk.injEq] at hzz;obtain ⟨hz,hs,hb⟩:=hzz;have hr:=run_make (P:=Tryz.prog) w 44 114 i _ Tryz.underlying44 hi hz .i64 .i64 n n (by omega) (Int.le_refl _) (by rw [hb];omega) (by omega);simp only [Int.toNat_natCast,hs] at hr;exact hr
theorem made_cells (w:World) (n:Nat):(w.alloc (.cells (madeCells #[.int .i64 0,.int .i64 0] (n*2)) 114)).rowIs w.heap.size 114 (n*2) (cv (fun _=>0) (fun _=>0)):=
  ⟨_,blk_alloc_new _ _,size_madeCells _ _,fun i hi=>by
    have h:i % 2=0∨i % 2=1:=(by omega)
    rcases h with h | h <;> simp [madeCells,hi,cv,h]⟩
theorem eqCell_same (k v:Int) (w:World):Calls Tryz.prog 90 #[.agg #[.int .i64 k,.int .i64 v],.agg #[.int .i64 k,.int .i64 v]] w fun e w'=>
    e=.returned (.bool true)∧∃c1 c2:Array Value,w'=(w.alloc (.cells c1 114)).alloc (.cells c2 114):=by
  go_enter Tryz.func90,Tryz.ntmps90;go_wp2;go_ret;exact ⟨rfl,_,_,rfl⟩
theorem toCell_any (k v:Int) (w:World):Calls Tryz.prog 86 #[.agg #[.int .i64 k,.int .i64 v]] w fun e w'=>
    e=.returned (.agg #[.int .i64 k,.int .i64 v])∧Below w.heap.size w w':=by
  go_enter Tryz.func86,Tryz.ntmps86;go_wp2;exact bodyPost_ret (v:=.agg #[.int .i64 k,.int .i64 v]) (by simp [results,Tryz.results86,go_sem]) rfl ⟨rfl,(((Below.refl _ _).alloc (Nat.le_refl _) _).alloc (by simp) _).alloc (by simp;omega) _⟩
set_option maxHeartbeats 400000 in
theorem eqCellS_some (n:Nat) (K V:Nat→Int) (b off cap b' off' cap':Nat) (w:World) (hn:n≤140737488355328) (hbl:b<w.heap.size) (hbl':b'<w.heap.size)
    (hk:∀i,i<n→w.cell? ⟨b,off+i*2,none⟩=some (.int .i64 (K i))) (hv:∀i,i<n→w.cell? ⟨b,off+i*2+1,none⟩=some (.int .i64 (V i)))
    (hk':∀i,i<n→w.cell? ⟨b',off'+i*2,none⟩=some (.int .i64 (K i))) (hv':∀i,i<n→w.cell? ⟨b',off'+i*2+1,none⟩=some (.int .i64 (V i))) :
    Calls Tryz.prog 33 #[.slice (some ⟨b,off,none⟩) n cap,.slice (some ⟨b',off',none⟩) n cap'] w fun e w'=>e=.returned (.bool true)∧Below w.heap.size w w':=by
  go_enter Tryz.func33,Tryz.ntmps33;go_wp2;go_loopw [5] (fun i wr=>∃k:Nat,k≤n∧i=.int .i64 k∧Below w.heap.size w wr) (fun i _=>n-(intOf i).toNat)
  case atStart=>exact ⟨0,Nat.zero_le _,rfl,Below.refl _ _⟩
  case round=>
    obtain ⟨k,hk0,rfl,hb⟩:=hrel
    by_cases hlt:k<n
    · have h1:wr.cell? ⟨b,off+k*2,none⟩=some (.int .i64 (K k)):=(hb.cell (p:=⟨b,_,none⟩) hbl).trans (hk k hlt);have h2:wr.cell? ⟨b,off+k*2+1,none⟩=some (.int .i64 (V k)):=(hb.cell (p:=⟨b,_,none⟩) hbl).trans (hv k hlt);have h3:wr.cell? ⟨b',off'+k*2,none⟩=some (.int .i64 (K k)):=(hb.cell (p:=⟨b',_,none⟩) hbl').trans (hk' k hlt);have h4:wr.cell? ⟨b',off'+k*2+1,none⟩=some (.int .i64 (V k)):=(hb.cell (p:=⟨b',_,none⟩) hbl').trans (hv' k hlt);have hlt':(k:Int)<(n:Int):=(by omega);clear hk hk' hv hv';go_wp2
      go_region_held3 (fun w'=>w'.cell? ⟨b,off+k*2,none⟩=some (.int .i64 (K k))∧w'.cell? ⟨b,off+k*2+1,none⟩=some (.int .i64 (V k))∧w'.cell? ⟨b',off'+k*2,none⟩=some (.int .i64 (K k))∧w'.cell? ⟨b',off'+k*2+1,none⟩=some (.int .i64 (V k))) (go_keep)
        (first | (go_at_call 90;refine (eqCell_same (K k) (V k) _).mono ?_;rintro e w' ⟨rfl,o1,o2,rfl⟩))
      have HB:Hid (Below w.heap.size w wr):=hb;clear hb;go_wp2;go_roundw
      case rel=>exact ⟨k+1,hlt,by go_num,by have hs:=HB.out.size;repeat (first | exact HB.out | apply Below.drew | refine Below.alloc ?_ (by first | omega | (simp;omega)) _)⟩
      case measure=>simp [intOf];omega
    · have hkn:k=n:=by omega
      clear hk hk' hv hv';go_wp2;go_ret;exact ⟨rfl,hb⟩
theorem eqCellS_zero (a a':Option Addr) (cap cap':Nat) (w:World) :
    Calls Tryz.prog 33 #[.slice a 0 cap,.slice a' 0 cap'] w fun e w'=>e=.returned (.bool true)∧Below w.heap.size w w':=by
  go_enter Tryz.func33,Tryz.ntmps33;go_wp2;go_loop [5] (fun i=>i=.int .i64 0) (fun _=>0)
  case atStart=>exact rfl
  case round=>
    obtain rfl:=hrel;go_wp2;go_ret;exact ⟨rfl,Below.refl _ _⟩
theorem eqCellS_any (n:Nat) (K V:Nat→Int) (a a':Option Addr) (cap cap':Nat) (w:World) (hn:n≤140737488355328) (h:CellsAt w a n K V) (h':CellsAt w a' n K V) :
    Calls Tryz.prog 33 #[.slice a n cap,.slice a' n cap'] w fun e w'=>e=.returned (.bool true)∧Below w.heap.size w w':=by
  rcases h with rfl | ⟨b,off,rfl,hl,hk,hv⟩
  · exact eqCellS_zero a a' cap cap' w
  · rcases h' with rfl | ⟨b',off',rfl,hl',hk',hv'⟩
    · exact eqCellS_zero _ a' cap cap' w
    · exact eqCellS_some n K V b off cap b' off' cap' w hn hl hl' hk hv hk' hv'
theorem cv_step {K V:Nat→Int} {w:World} {b n k:Nat} (h:w.rowIs b 114 (n*2) (cv (fun i=>if i<k then K i else 0) (fun i=>if i<k then V i else 0))) :
    ((w.setCell ⟨b,k*2,none⟩ (.int .i64 (K k))).setCell ⟨b,k*2+1,none⟩ (.int .i64 (V k))).rowIs b 114 (n*2) (cv (fun i=>if i<k+1 then K i else 0) (fun i=>if i<k+1 then V i else 0)):=by
  refine ((h.set (k*2) _).set (k*2+1) _).congr fun j _=>?_
  by_cases e1:j=k*2+1
  · subst e1;rw [if_pos rfl,cv_val];simp
  · rw [if_neg e1]
    by_cases e2:j=k*2
    · subst e2;rw [if_pos rfl,cv_key];simp
    · rw [if_neg e2];have:(j / 2<k)↔(j / 2<k+1):=(by omega);unfold cv;simp only [this]
set_option maxHeartbeats 400000 in
theorem toCellS_some (n:Nat) (K V:Nat→Int) (b off cap:Nat) (w:World) (hn:n≤8796093022208) (hbl:b<w.heap.size)
    (hk:∀i,i<n→w.cell? ⟨b,off+i*2,none⟩=some (.int .i64 (K i))) (hv:∀i,i<n→w.cell? ⟨b,off+i*2+1,none⟩=some (.int .i64 (V i))) :
    Calls Tryz.prog 29 #[.slice (some ⟨b,off,none⟩) n cap] w fun e w'=>
      e=.returned (.slice (some ⟨w.heap.size,0,none⟩) n n)∧Below w.heap.size w w'∧w'.rowIs w.heap.size 114 (n*2) (cv K V):=by
  have hmk:=run_make_cells n hn;go_enter Tryz.func29,Tryz.ntmps29;go_wp2;go_loopw [4] (fun i wr=>∃k:Nat,k≤n∧i=.int .i64 k∧Below w.heap.size w wr∧wr.rowIs w.heap.size 114 (n*2) (cv (fun i=>if i<k then K i else 0) (fun i=>if i<k then V i else 0))) (fun i _=>n-(intOf i).toNat)
  case atStart=>exact ⟨0,Nat.zero_le _,rfl,(Below.refl _ _).alloc (Nat.le_refl _) _,(made_cells w n).congr (fun i _=>by simp)⟩
  case round=>
    obtain ⟨k,hk0,rfl,hb,hrow⟩:=hrel
    by_cases hlt:k<n
    · have h1:wr.cell? ⟨b,off+k*2,none⟩=some (.int .i64 (K k)):=(hb.cell (p:=⟨b,_,none⟩) hbl).trans (hk k hlt);have h2:wr.cell? ⟨b,off+k*2+1,none⟩=some (.int .i64 (V k)):=(hb.cell (p:=⟨b,_,none⟩) hbl).trans (hv k hlt);obtain ⟨v3,hv3⟩:∃v,wr.cell? ⟨w.heap.size,k*2,none⟩=some v:=⟨_,hrow.cell (by omega)⟩;obtain ⟨v4,hv4⟩:∃v,wr.cell? ⟨w.heap.size,k*2+1,none⟩=some v:=⟨_,hrow.cell (by omega)⟩;have hf3:=hrow.frozen (k*2);have hf4:=hrow.frozen (k*2+1);have hsz:=hrow.lt;have HR:Hid (wr.rowIs w.heap.size 114 (n*2) (cv (fun i=>if i<k then K i else 0) (fun i=>if i<k then V i else 0))):=hrow;have HB:Hid (Below w.heap.size w wr):=hb;clear hk hv hmk hrow hb;go_wp2_with fail;refine (toCell_any (K k) (V k) wr).mono ?_;rintro e w1 ⟨rfl,hb1⟩;have g3:w1.cell? ⟨w.heap.size,k*2,none⟩=some v3:=(hb1.cell (p:=⟨_,_,none⟩) hsz).trans hv3;have g4:w1.cell? ⟨w.heap.size,k*2+1,none⟩=some v4:=(hb1.cell (p:=⟨_,_,none⟩) hsz).trans hv4;have f3:w1.frozen? ⟨w.heap.size,k*2,none⟩=false:=(hb1.frozen (p:=⟨_,_,none⟩) hsz).trans hf3;have f4:w1.frozen? ⟨w.heap.size,k*2+1,none⟩=false:=(hb1.frozen (p:=⟨_,_,none⟩) hsz).trans hf4;have HB1:Hid (Below wr.heap.size wr w1):=hb1;clear hb1 h1 h2 hv3 hv4 hf3 hf4;go_wp2_with fail;go_roundw
      case rel=>exact ⟨k+1,hlt,by go_num,((HB.out.trans (HB1.out.mono HB.out.size)).setCell (Nat.le_refl _) _).setCell (Nat.le_refl _) _,cv_step (HR.out.of_block (HB1.out.block _ hsz))⟩
      case measure=>simp [intOf];omega
    · have hkn:k=n:=by omega
      have HR:Hid (wr.rowIs w.heap.size 114 (n*2) (cv K V)):=hrow.congr (fun i hi=>by
        have:i / 2<k:=(by omega)
        simp [cv,this])
      clear hk hv hmk hrow;go_wp2;go_ret;exact ⟨rfl,hb,HR.out⟩
theorem toCellS_zero (K V:Nat→Int) (a:Option Addr) (cap:Nat) (w:World) :
    Calls Tryz.prog 29 #[.slice a 0 cap] w fun e w'=>
      e=.returned (.slice (some ⟨w.heap.size,0,none⟩) 0 0)∧Below w.heap.size w w'∧w'.rowIs w.heap.size 114 (0*2) (cv K V):=by
  have hmk:∀w,(Instr.makeSlice 44 (.int .i64 0) (.int .i64 0)).run Tryz.prog w=.ok (.slice (some ⟨w.heap.size,0,none⟩) 0 0) (w.alloc (.cells #[] 114)):=fun w=>by
    have h:=run_make_cells 0 (by omega) w;rw [made_none] at h;exact h
  go_enter Tryz.func29,Tryz.ntmps29;go_wp2;go_loop [4] (fun i=>i=.int .i64 0) (fun _=>0)
  case atStart=>exact rfl
  case round=>
    obtain rfl:=hrel;go_wp2;go_ret;exact ⟨rfl,(Below.refl _ _).alloc (Nat.le_refl _) _,World.rowIs_alloc w #[] 114 _ (fun i hi=>by simp at hi)⟩
theorem toCellS_any (n:Nat) (K V:Nat→Int) (a:Option Addr) (cap:Nat) (w:World) (hn:n≤8796093022208) (h:CellsAt w a n K V) :
    Calls Tryz.prog 29 #[.slice a n cap] w fun e w'=>
      e=.returned (.slice (some ⟨w.heap.size,0,none⟩) n n)∧Below w.heap.size w w'∧w'.rowIs w.heap.size 114 (n*2) (cv K V):=by
  rcases h with rfl | ⟨b,off,rfl,hbl,hk,hv⟩
  · exact toCellS_zero K V a cap w
  · exact toCellS_some n K V b off cap w hn hbl hk hv
theorem setO {w:World} {b o o':Nat} {v:Value} (h:o≠o'):(w.setCell ⟨b,o,none⟩ v).cell? ⟨b,o',none⟩=w.cell? ⟨b,o',none⟩:=World.cell?_setCell_other _ _ _ _ (by intro e;exact h (congrArg Addr.off e))
theorem setS {w:World} {a:Addr} {v u:Value} (h:w.cell? a=some u):(w.setCell a v).cell? a=some v:=World.cell?_setCell_same _ _ _ h
def Row2 (w:World) (b off n:Nat) (K V:Nat→Int):Prop:=
  (∀i,i<n→w.cell? ⟨b,off+i*2,none⟩=some (.int .i64 (K i)))∧(∀i,i<n→w.cell? ⟨b,off+i*2+1,none⟩=some (.int .i64 (V i)))∧
    (∀i,i<n→w.frozen? ⟨b,off+i*2,none⟩=false)∧(∀i,i<n→w.frozen? ⟨b,off+i*2+1,none⟩=false)
def mk (m:Int) (K:Nat→Int) (j i:Nat):Int:=if i<j then m+i*2 else K i
theorem mk_lt {m:Int} {K:Nat→Int} {j i:Nat} (h:i<j):mk m K j i=m+i*2:=by simp [mk,h]
theorem mk_ne {m:Int} {K:Nat→Int} {j i:Nat} (h:i≠j):mk m K (j+1) i=mk m K j i:=by
  unfold mk;by_cases e:i<j
  · rw [if_pos e,if_pos (by omega)]
  · rw [if_neg e,if_neg (by omega)]
theorem row2_step {w:World} {b off n k:Nat} {K V:Nat→Int} {m:Int} (hlt:k<n) (h:Row2 w b off n (mk m K k) (mk (m+1) V k)) :
    Row2 ((w.setCell ⟨b,off+k*2,none⟩ (.int .i64 (m+k*2))).setCell ⟨b,off+k*2+1,none⟩ (.int .i64 (m+k*2+1))) b off n (mk m K (k+1)) (mk (m+1) V (k+1)):=by
  obtain ⟨hk,hv,hf,hg⟩:=h;refine ⟨fun i hi=>?_,fun i hi=>?_,fun i hi=>?_,fun i hi=>?_⟩
  · rw [setO (by omega)]
    by_cases e:i=k
    · subst e;rw [setS (hk i hi),mk_lt (by omega)]
    · rw [setO (by omega),mk_ne e,hk i hi]
  · by_cases e:i=k
    · subst e
      have h0:(w.setCell ⟨b,off+i*2,none⟩ (.int .i64 (m+i*2))).cell? ⟨b,off+i*2+1,none⟩=some (.int .i64 (mk (m+1) V i i)):=by
        rw [setO (by omega),hv i hi]
      rw [setS h0,mk_lt (by omega)]
      congr 2;omega
    · rw [setO (by omega),setO (by omega),mk_ne e,hv i hi]
  · simp [go_sem,hf i hi]
  · simp [go_sem,hg i hi]
set_option maxHeartbeats 400000 in
theorem markCellS_some (n:Nat) (K V:Nat→Int) (b off cap lo hi:Nat) (m:Int) (w:World) (hn:n≤8796093022208) (hm1:0≤m) (hm2:m≤8796093022208) (hlo:lo≤b) (hhi:b<hi) (hr:Row2 w b off n K V) :
    Calls Tryz.prog 35 #[.slice (some ⟨b,off,none⟩) n cap,.int .i64 m] w fun e w'=>
      e=.returned (.int .i64 (m+n*2))∧Writes lo hi w w'∧Row2 w' b off n (mk m K n) (mk (m+1) V n):=by
  go_enter Tryz.func35,Tryz.ntmps35;go_wp2;go_loopw [1,5] (fun q i wr=>∃k:Nat,k≤n∧i=.int .i64 k∧q=.int .i64 (m+k*2)∧Writes lo hi w wr∧Row2 wr b off n (mk m K k) (mk (m+1) V k)) (fun _ i _=>n-(intOf i).toNat)
  case atStart=>exact ⟨0,Nat.zero_le _,rfl,by go_num,Writes.refl _ _ _,⟨fun i h=>by rw [hr.1 i h];simp [mk],fun i h=>by rw [hr.2.1 i h];simp [mk],hr.2.2.1,hr.2.2.2⟩⟩
  case round=>
    obtain ⟨k,hk0,rfl,rfl,hb,hrow⟩:=hrel
    by_cases hlt:k<n
    · have h1:=hrow.1 k hlt;have h2:=hrow.2.1 k hlt;have h3:=hrow.2.2.1 k hlt;have h4:=hrow.2.2.2 k hlt;generalize mk m K k k=x1 at h1;generalize mk (m+1) V k k=x2 at h2;have HR:Hid (Row2 wr b off n (mk m K k) (mk (m+1) V k)):=hrow;have HB:Hid (Writes lo hi w wr):=hb;clear hr hrow hb;go_wp2;go_roundw
      case rel=>exact ⟨k+1,hlt,by go_num,by go_num,(HB.out.setCell (p:=⟨b,_,none⟩) hlo hhi _).setCell (p:=⟨b,_,none⟩) hlo hhi _,row2_step hlt HR.out⟩
      case measure=>simp [intOf];omega
    · have hkn:k=n:=by omega
      have HR:Hid (Row2 wr b off n (mk m K n) (mk (m+1) V n)):=(by have h:=hrow;rw [hkn] at h;exact h);clear hr hrow;go_wp2;go_ret;exact ⟨ret_int (by rw [hkn]),hb,HR.out⟩
theorem markCellS_zero (a:Option Addr) (cap lo hi:Nat) (m:Int) (w:World) (hm1:0≤m) (hm2:m≤8796093022208) :
    Calls Tryz.prog 35 #[.slice a 0 cap,.int .i64 m] w fun e w'=>e=.returned (.int .i64 m)∧w'=w:=by
  go_enter Tryz.func35,Tryz.ntmps35;go_wp2;go_loop [1,5] (fun q i=>q=.int .i64 m∧i=.int .i64 0) (fun _ _=>0)
  case atStart=>exact ⟨rfl,rfl⟩
  case round=>
    obtain ⟨rfl,rfl⟩:=hrel;go_wp2;go_ret;exact ⟨rfl,rfl⟩
def mK (m:Int) (i:Nat):Int:=m+i*2
theorem markCellS_any (n:Nat) (K V:Nat→Int) (a:Option Addr) (cap lo hi:Nat) (m:Int) (w:World) (hn:n≤8796093022208) (hm1:0≤m) (hm2:m≤8796093022208) (h:Own w lo hi a n K V) :
    Calls Tryz.prog 35 #[.slice a n cap,.int .i64 m] w fun e w'=>
      e=.returned (.int .i64 (m+n*2))∧Writes lo hi w w'∧Own w' lo hi a n (mK m) (mK (m+1)):=by
  obtain ⟨h0,rfl | ⟨b,off,rfl,hlo,hhi,hr⟩⟩:=h
  · refine (markCellS_zero a cap lo hi m w hm1 hm2).mono ?_;rintro e w' ⟨rfl,rfl⟩;exact ⟨ret_int (by omega),Writes.refl _ _ _,h0,.inl rfl⟩
  · refine (markCellS_some n K V b off cap lo hi m w hn hm1 hm2 hlo hhi hr).mono ?_;rintro e w' ⟨rfl,hw,h1,h2,h3⟩;exact ⟨rfl,hw,Nat.le_trans h0 hw.size,.inr ⟨b,off,rfl,hlo,hhi,fun i hi=>by rw [h1 i hi,mk_lt hi];rfl,fun i hi=>by rw [h2 i hi,mk_lt hi];rfl,h3⟩⟩
set_option maxHeartbeats 400000 in
theorem heldCellS_some (n b off cap:Nat) (m:Int) (w:World) (hn:n≤8796093022208) (hm1:0≤m) (hm2:m≤8796093022208)
    (hk:∀i,i<n→w.cell? ⟨b,off+i*2,none⟩=some (.int .i64 (mK m i))) (hv:∀i,i<n→w.cell? ⟨b,off+i*2+1,none⟩=some (.int .i64 (mK (m+1) i))) :
    Calls Tryz.prog 158 #[.slice (some ⟨b,off,none⟩) n cap,.int .i64 m] w fun e w'=>e=.returned (.int .i64 (m+n*2))∧w'=w:=by
  go_enter Tryz.func158,Tryz.ntmps158;go_wp2;go_loop [1,5] (fun q i=>∃k:Nat,k≤n∧i=.int .i64 k∧q=.int .i64 (m+k*2)) (fun _ i=>n-(intOf i).toNat)
  case atStart=>exact ⟨0,Nat.zero_le _,rfl,by go_num⟩
  case round=>
    obtain ⟨k,hk0,rfl,rfl⟩:=hrel
    by_cases hlt:k<n
    · have h1:w.cell? ⟨b,off+k*2,none⟩=some (.int .i64 (m+k*2)):=hk k hlt;have h2:w.cell? ⟨b,off+k*2+1,none⟩=some (.int .i64 (m+k*2+1)):=(by rw [hv k hlt];unfold mK;congr 2;omega);clear hk hv;go_wp2;go_round
      case rel=>exact ⟨k+1,hlt,by go_num,by go_num⟩
      case measure=>simp [intOf];omega
    · have hkn:k=n:=by omega
      clear hk hv;go_wp2;go_ret;exact ⟨rfl,rfl⟩
theorem heldCellS_zero (a:Option Addr) (cap:Nat) (m:Int) (w:World) (hm1:0≤m) (hm2:m≤8796093022208) :
    Calls Tryz.prog 158 #[.slice a 0 cap,.int .i64 m] w fun e w'=>e=.returned (.int .i64 m)∧w'=w:=by
  go_enter Tryz.func158,Tryz.ntmps158;go_wp2;go_loop [1,5] (fun q i=>q=.int .i64 m∧i=.int .i64 0) (fun _ _=>0)
  case atStart=>exact ⟨rfl,rfl⟩
  case round=>
    obtain ⟨rfl,rfl⟩:=hrel;go_wp2;go_ret;exact ⟨rfl,rfl⟩
theorem heldCellS_any (n:Nat) (a:Option Addr) (cap:Nat) (m:Int) (w:World) (hn:n≤8796093022208) (hm1:0≤m) (hm2:m≤8796093022208) (h:CellsAt w a n (mK m) (mK (m+1))) :
    Calls Tryz.prog 158 #[.slice a n cap,.int .i64 m] w fun e w'=>e=.returned (.int .i64 (m+n*2))∧w'=w:=by
  rcases h with rfl | ⟨b,off,rfl,_,hk,hv⟩
  · refine (heldCellS_zero a cap m w hm1 hm2).mono ?_;rintro e w' ⟨rfl,rfl⟩;exact ⟨ret_int (by omega),rfl⟩
  · exact heldCellS_some n b off cap m w hn hm1 hm2 hk hv
end Go.Proofs.YtjdodbiphijjgaaGreat
