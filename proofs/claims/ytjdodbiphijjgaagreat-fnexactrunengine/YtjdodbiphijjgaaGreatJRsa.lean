import Derived.Test.YtjdodbiphijjgaaGreatJGg
import Derived.Test.YtjdodbiphijjgaaGreatJVj
import Derived.Test.YtjdodbiphijjgaaGreatJWae
import Derived.Defers
import Derived.Recover
import Derived.WalkLawsBesides
import Derived.Test.YtjdodbiphijjgaaGreatJBga
import Derived.Shelf.Spec.SlicesInsertGrow
import Derived.Deep.AppendLies
import Derived.Shelf.RegionOpen
import Derived.Test.YtjdodbiphijjgaaGreatJCmc
namespace Go.Proofs.YtjdodbiphijjgaaGreat
open Go.RowKit Go.Deep
set_option linter.unusedVariables false
set_option linter.unusedSimpArgs false
set_option maxRecDepth 20000
open Go.RowKit Go.Deep Go.Shelf Go.Lib
open Go.RowKit Go.Deep Go.Shelf
def Rf (c:Int):Ending:=.panicked [{ v:=.iface 185 (.int .i64 c),recovered:=false }]
theorem refuse_any (c:Int) (w:World):Calls Tryz.prog 119 #[.int .i64 c] w fun e w'=>((c=0∧e=.returned (.tuple #[]))∨(c≠0∧e=Rf c))∧w'=w:=by
  by_cases h:c=0
  · have h1:(c != 0)=false:=by simp [h]
    go_enter Tryz.func119,Tryz.ntmps119;go_wp2_with fail;go_end0;exact ⟨.inl ⟨h,rfl⟩,rfl⟩
  · have h1:(c != 0)=true:=by simp [h]
    go_enter Tryz.func119,Tryz.ntmps119;go_wp2_with fail;exact ⟨rfl,.inr ⟨h,rfl⟩,rfl⟩
theorem refD_bad (R:Nat) (c:Int) (w:World) (hf:∀i,w.frozen? ⟨R,i,none⟩=false) {z0 z1 z2 z3 z4 z5:Value} (h:Box6 w R z0 z1 z2 z3 z4 z5) :
    CallsD Tryz.prog 118 #[.pointer (some ⟨R,0,none⟩)] (.panicking [{ v:=.iface 185 (.int .i64 c),recovered:=false }]) w fun e u' w'=>
      e=.returned (.tuple #[])∧u'=.panicking [{ v:=.iface 185 (.int .i64 c),recovered:=true }]∧Writes R (R+1) w w'∧w'.heap.size=w.heap.size∧Box6 w' R (.int .i64 c) (.int .i64 0) (.int .i64 0) (.int .i64 0) (.slice none 0 0) (.slice none 0 0):=by
  obtain ⟨h0,h1,h2,h3,h4,h5⟩:=h
  have hta:∀u:World,(Instr.typeAssert (.iface 185 (.int .i64 c)) 20 185 false).run Tryz.prog u=.ok (.int .i64 c) u:=fun u=>by rfl
  refine callsD_of_wpS Tryz.func118 rfl fun c₀ cs hu=>?_;apply wpS_seq;apply wpS_region;simp [wpOpsS,go_sem,recoverD,hu,Tryz.ntmps118,Exit.thenS];apply wpS_seq;apply wpS_region;simp [wpOpsS,go_sem,Exit.thenS];refine wpS_cond (t:=true) (by simp [Act.eval,Array.replicate]) ?_;simp only [if_true];apply wpS_region;simp [wpOpsS,go_sem,hta,hf,h0,h1,h2,h3,h4,h5,bodyPostS,results,Tryz.results118];refine ⟨?_,?_⟩
  · repeat (first | with_reducible exact Writes.refl _ _ _ | with_reducible refine Writes.setCell ?_ (by first | omega | (simp <;> omega)) (by first | omega | (simp <;> omega)) _)
  · refine ⟨?_,?_,?_,?_,?_,?_⟩ <;> simp [go_sem,h0,h1,h2,h3,h4,h5]
theorem refD_idle (R:Nat) (w:World) :
    CallsD Tryz.prog 118 #[.pointer (some ⟨R,0,none⟩)] .returning w fun e u' w'=>e=.returned (.tuple #[])∧u'=.returning∧w'=w:=by
  refine callsD_of_wpS Tryz.func118 rfl fun c₀ cs hu=>?_;apply wpS_seq;apply wpS_region;simp [wpOpsS,go_sem,recoverD,hu,Tryz.ntmps118,Exit.thenS];apply wpS_seq;apply wpS_region;simp [wpOpsS,go_sem,Exit.thenS];refine wpS_cond (t:=false) (by simp [Act.eval,Array.replicate]) ?_;simp only [Bool.false_eq_true,if_false];refine wpS_of_wp (wp_skip ?_);cases c₀
  simp_all [bodyPostS,results,Tryz.results118]
def uoF (n:Nat) (R:Nat→Vr) (id key:Int):Ud:=if fob n R id=true then ⟨key,true,(R 0).g,(R 0).v⟩ else ⟨key,false,false,0⟩
set_option maxHeartbeats 1000000 in
theorem undoOf_any (n:Nat) (R:Nat→Vr) (a:Option Addr) (cap:Nat) (id key:Int) (w:World) (h:VersAt w a n R) :
    Calls Tryz.prog 181 #[.slice a n cap,.int .i64 id,.int .i64 key] w fun e w'=>e=.returned (.agg #[.int .i64 (uoF n R id key).k,.bool (uoF n R id key).h,.bool (uoF n R id key).g,.int .i64 (uoF n R id key).v])∧Below w.heap.size w w':=by
  have HA:Hid (VersAt w a n R):=h;have HB0:Hid (Below w.heap.size w (w.alloc (.cells #[.int .i64 0,.bool false,.bool false,.int .i64 0] 176))):=below_new _ _;have HU:Hid (uoF n R id key=if fob n R id=true then ⟨key,true,(R 0).g,(R 0).v⟩ else ⟨key,false,false,0⟩):=rfl;have hmo:Tryz.prog.follows .mixedOrders=true:=(by kernel_rfl);clear h;generalize uoF n R id key=uo at *;go_enter Tryz.func181,Tryz.ntmps181;go_wp2_with fail;refine (firstIsOpenBy_any n R a cap id _ (HA.out.below HB0.out)).mono ?_;rintro e w1 ⟨rfl,hb1⟩;have z:∀i v,(w.alloc (.cells #[.int .i64 0,.bool false,.bool false,.int .i64 0] 176)).cell? ⟨w.heap.size,i,none⟩=some v→w1.cell? ⟨w.heap.size,i,none⟩=some v:=fun i v hv=>cell_below hv hb1;have z0:=z 0 (.int .i64 0) (by simp);have z1:=z 1 (.bool false) (by simp);have z2:=z 2 (.bool false) (by simp);have z3:=z 3 (.int .i64 0) (by simp);have zf:∀i,w1.frozen? ⟨w.heap.size,i,none⟩=false:=fun i=>((bcell2 hb1).2 _ _ (by simp)).trans (by simp [go_sem]);have HB1:Hid (Below w.heap.size w w1):=below_then HB0.out hb1;clear z hb1 HB0;cases hf:fob n R id with
  | false=>
    have HE:Hid (uo=⟨key,false,false,0⟩):=(by rw [Hid,HU.out,hf];rfl);clear HU hf;go_wp2_with fail;refine bodyPost_ret (v:=.agg #[.int .i64 key,.bool false,.bool false,.int .i64 0]) (by simp [results,Tryz.results181,go_sem,z0,z1,z2,z3]) rfl ?_;refine ⟨by rw [HE.out],?_⟩
    repeat (first | with_reducible exact HB1.out | with_reducible refine Below.setCell ?_ (by first | omega | (simp <;> omega)) _)
  | true=>
    have HE:Hid (uo=⟨key,true,(R 0).g,(R 0).v⟩):=(by rw [Hid,HU.out,hf];rfl);have hn:0<n:=(by simp only [fob,Bool.and_eq_true,decide_eq_true_eq] at hf;exact hf.1);have hn1:(0:Int)<(n:Int):=(by omega)
    rcases HA.out with h9 | ⟨b,off,rfl,hbl,hc⟩
    · omega
    obtain ⟨c0,c1,c2,c3⟩:=hc 0 hn;simp only [Nat.zero_mul,Nat.add_zero] at c0 c1 c2 c3;replace c2:=cell_below c2 HB1.out;replace c3:=cell_below c3 HB1.out;have hbw:b≠w.heap.size:=(by omega);clear HU hf hc c0 c1;generalize (R 0).g=vg at *;generalize (R 0).v=vv at *;go_wp2_with fail;go_region
    all_goals go_wp2_with fail
    all_goals refine bodyPost_ret (v:=.agg #[.int .i64 key,.bool true,.bool vg,.int .i64 vv]) (by simp [results,Tryz.results181,go_sem,z0,z1,z2,z3]) rfl ?_
    all_goals refine ⟨by rw [HE.out],?_⟩
    all_goals repeat (first | with_reducible exact HB1.out | apply Below.drew | with_reducible refine Below.setCell ?_ (by first | omega | (simp <;> omega)) _)
def ckN (E:En) (key:Int):Nat:=if 0≤fR E.q E.R key then (E.R (fR E.q E.R key).toNat).n else 0
def ckU (E:En) (key:Int):Nat→Vr:=if 0≤fR E.q E.R key then (E.R (fR E.q E.R key).toNat).U else fun _=>zV
theorem run_copy_rowK {P:Program} (w:World) (dT sT ty elem:TypeId) (k:Nat) (g o dLen dCap:Nat) (a:Addr) (sLen sCap:Nat) (cur:Array Value) (t:TypeId) (cs:List Value)
    (hu:P.underlying dT=some (.slice elem)) (hs:(P.info? elem).map (·.size)=some k)
    (hg:w.heap[g]? = some (.cells cur t (0,0))) (hn:cs.length=Nat.min sLen dLen*k)
    (hsrc:∀j v,cs[j]? = some v→w.cell? (a.add j)=some v) (hfit:o+cs.length≤cur.size) (h1:∀v ∈ cs,v.oneCell'=true) :
    (Builtin.copy_ #[dT,sT] ty #[.slice (some ⟨g,o,none⟩) dLen dCap,.slice (some a) sLen sCap]).run P w =
      .ok (goInt (Nat.min sLen dLen)) (w.setRow g (cur.toList.take o ++ cs ++ cur.toList.drop (o+cs.length)).toArray):=by
  have hl:=run_loadCells_list (P:=P) w a cs hsrc;have hst:=run_storeCells_at P g o t cs 0 cur w hg (by simpa using hfit) h1;cases hq:P.info? elem with
  | none=>simp [hq] at hs
  | some i=>
    have hi:i.size=k:=(by simpa [hq] using hs);simp [Builtin.copy_,run_underlying hu,Builtin.lenOf,Builtin.firstCells,sizeOf,typeInfo,hq,hi,←hn,hl,hst]
def insL (xs ys:List Value) (i:Nat):List Value:=xs.take (i*2) ++ ys ++ xs.drop (i*2)
theorem insL_len (xs ys:List Value) (i:Nat) (h:i*2≤xs.length):(insL xs ys i).length=xs.length+ys.length:=by
  simp only [insL,List.length_append,List.length_take,List.length_drop];omega
def InsA (w:World) (base:Nat) (v:Value) (n:Nat) (zs:List Value) (e:Ending) (w':World):Prop:=
  ∃g cap,e=.returned (.slice (some ⟨g,0,none⟩) (n+1) cap)∧w'.ownsRow base 173 2 (.slice (some ⟨g,0,none⟩) (n+1) cap) (n+1) zs∧w.grownBy w' v.ownBlock∧(v.ownBlock=some g∨g=w.heap.size)∧g<w'.heap.size
set_option maxHeartbeats 4000000 in
theorem insRw_end (w:World) (base n vb vc:Nat) (v:Value) (xs ys:List Value) (hown:w.ownsRow base 173 2 v n xs) (hbase:base≤w.heap.size) (hn:n≤1000)
    (hy:ys.length=2) (hys:∀j u,ys[j]? = some u→w.cell? ⟨vb,j,none⟩=some u) (h1:∀u ∈ ys,u.oneCell'=true) :
    Calls Tryz.prog 182 #[v,.int .i64 n,.slice (some ⟨vb,0,none⟩) 1 vc] w (InsA w base v n (insL xs ys n)):=by
  obtain ⟨i0,hi,hz0,hz1,hz2⟩:=info_parts2 infoRw;obtain ⟨g,cap,w1,hr,hown1,hg1,hl1,hlt1⟩:=run_append_lies (P:=Tryz.prog) w 28 28 base 173 i0 _ 2 32 Tryz.underlying28 hi hz0 hz1 hz2 rfl (by decide) v n xs hown ⟨vb,0,none⟩ 1 vc ys (by rw [hy]) (fun j u hj=>by rw [WideShapes.add_plain,Nat.zero_add];exact hys j u hj) h1 (by decide) (by unfold maxLen;omega) (by omega) hbase w.heap.size rfl
  have hxs:insL xs ys n=xs ++ ys:=by
    have hl:=hown.1;unfold insL;rw [List.take_of_length_le (by omega),List.drop_eq_nil_of_le (by omega),List.append_nil]
  have HF:Hid (InsA w base v n (insL xs ys n) (.returned (.slice (some ⟨g,0,none⟩) (n+1) cap)) w1):=⟨g,cap,rfl,by rw [hxs];exact hown1,hg1,hl1,hlt1⟩
  have hcap:v=.slice none 0 0∧n=0∨∃g0 c0,v=.slice (some ⟨g0,0,none⟩) n c0∧n≤c0∧c0≤9223372036854775807:=by
    rcases hown.2 with h | ⟨g0,c0,cur,e,_,_,k1,k2,_⟩
    · exact .inl h
    · exact .inr ⟨g0,c0,e,k1,by unfold maxLen at k2;omega⟩
  clear hown1 hg1 hl1 hlt1 hxs hown hys h1 hi hz0 hz1 hz2 hbase
  rcases hcap with ⟨rfl,rfl⟩ | ⟨g0,c0,rfl,k1,k2⟩
  · go_enter Tryz.func182,Tryz.ntmps182;go_wp2_with (at_builtin;refine Lib.wpList_append_run _ rfl _ _ _ _ rfl _ _ rfl rfl _ _ hr ?_);go_ret;exact HF.out
  · go_enter Tryz.func182,Tryz.ntmps182;go_wp2_with (at_builtin;refine Lib.wpList_append_run _ rfl _ _ _ _ rfl _ _ rfl rfl _ _ hr ?_)
    all_goals (go_ret;exact HF.out)
theorem ins_room (L xs ys:List Value) (n i:Nat) (hi:i<n) (hL:(n+1)*2≤L.length) (hx:L.take (n*2)=xs) (hy:ys.length=2) :
    (((L.take ((i+1)*2) ++ xs.drop (i*2) ++ L.drop ((i+1)*2+(xs.drop (i*2)).length)).take (i*2) ++ ys ++ (L.take ((i+1)*2) ++ xs.drop (i*2) ++ L.drop ((i+1)*2+(xs.drop (i*2)).length)).drop (i*2+ys.length)).take ((n+1)*2))=insL xs ys i:=by
  have hxl:xs.length=n*2:=(by rw [←hx,List.length_take];omega);have e1:(L.take ((i+1)*2)).length=(i+1)*2:=(by rw [List.length_take];omega);have e2:(xs.drop (i*2)).length=n*2-i*2:=(by rw [List.length_drop,hxl])
  have a1:(L.take ((i+1)*2) ++ xs.drop (i*2) ++ L.drop ((i+1)*2+(xs.drop (i*2)).length)).take (i*2)=xs.take (i*2):=by
    rw [List.append_assoc,List.take_append_of_le_length (by omega),List.take_take,←hx,List.take_take]
    congr 1
    omega
  have a2:(L.take ((i+1)*2) ++ xs.drop (i*2) ++ L.drop ((i+1)*2+(xs.drop (i*2)).length)).drop (i*2+ys.length)=xs.drop (i*2) ++ L.drop ((i+1)*2+(xs.drop (i*2)).length):=by
    rw [hy,List.append_assoc,show i*2+2=(L.take ((i+1)*2)).length by omega,List.drop_left]
  rw [a1,a2];unfold insL;have e3:(xs.take (i*2)).length=i*2:=(by rw [List.length_take];omega);rw [←List.append_assoc,List.take_append_of_le_length (by simp only [List.length_append,e2,e3,hy];omega),List.take_of_length_le (by simp only [List.length_append,e2,e3,hy];omega)]
set_option maxHeartbeats 4000000 in
theorem insRw_room (w:World) (base n i g cap vb vc:Nat) (xs ys:List Value) (cur:Array Value) (hi:i<n) (hb:base≤g) (hg:w.heap[g]? = some (.cells cur 173 (0,0))) (hnc:n+1≤cap) (hcm:cap≤maxLen) (hcs:cur.size=cap*2) (htk:cur.toList.take (n*2)=xs) (hx1:∀u ∈ xs,u.oneCell'=true) (hn:n≤1000)
    (hvb:vb≠g) {tA:TypeId} {cv:Array Value} (hv:w.heap[vb]? = some (.cells cv tA (0,0))) (hy:ys.length=2) (hys:∀j u,ys[j]? = some u→w.cell? ⟨vb,j,none⟩=some u) (h1:∀u ∈ ys,u.oneCell'=true) :
    Calls Tryz.prog 182 #[.slice (some ⟨g,0,none⟩) n cap,.int .i64 i,.slice (some ⟨vb,0,none⟩) 1 vc] w (InsA w base (.slice (some ⟨g,0,none⟩) n cap) n (insL xs ys i)):=by
  obtain ⟨i0,hi0,hz0,hz1,hz2⟩:=info_parts2 infoRw;have hsz:(Tryz.prog.info? 173).map (·.size)=some 2:=(by rw [hi0];simp [hz1]);have hxl:xs.length=n*2:=(by rw [←htk,List.length_take,Array.length_toList];omega);have hdl:(xs.drop (i*2)).length=(n-i)*2:=(by rw [List.length_drop,hxl];omega)
  have hov:∀lb cb,(callFunc 218 #[.slice (some ⟨vb,0,none⟩) 1 vc,.slice (some ⟨g,(i+1)*2,none⟩) lb cb]).run Tryz.prog w=.ok (.value (.bool false)) w:=fun lb cb=>by
    rw [run_callFunc_extern Tryz.func218 (by kernel_rfl) (by kernel_rfl) (by kernel_rfl) (e:=Extern.SlicesOverlaps.overlaps #[28,28] #[4]) (by kernel_rfl),
      Lib.run_overlaps_apart w 28 4 173 Tryz.underlying28 2 (fun w=>by simp [sizeOf,typeInfo,hi0,hz1]) ⟨vb,0,none⟩ ⟨g,(i+1)*2,none⟩ 1 vc lb cb hvb tA 173 cv.size cur.size (by simp [World.shape?,hv]) (by simp [World.shape?,hg]) (by omega) (by simp [World.frozen?,hv]) (by simp [World.frozen?,hv])]
    rfl
  obtain ⟨cur1,hc1⟩:∃cur1,cur1=(cur.toList.take ((i+1)*2) ++ xs.drop (i*2) ++ cur.toList.drop ((i+1)*2+(xs.drop (i*2)).length)).toArray:=⟨_,rfl⟩
  have hcp1:∀ty dc sc,(Builtin.copy_ #[28,28] ty #[.slice (some ⟨g,(i+1)*2,none⟩) (n-i) dc,.slice (some ⟨g,i*2,none⟩) (n+1-i) sc]).run Tryz.prog w.drew=.ok (goInt (Nat.min (n+1-i) (n-i))) (w.drew.setRow g cur1):=fun ty dc sc=>by
    rw [hc1];refine run_copy_rowK w.drew _ _ ty 173 2 g ((i+1)*2) _ dc ⟨g,i*2,none⟩ _ sc cur 173 (xs.drop (i*2)) Tryz.underlying28 hsz hg ?_ ?_ ?_ fun v hv=>hx1 v (List.mem_of_mem_drop hv)
    · rw [hdl];simp only [Nat.min_def];split <;> omega
    · intro j v hj;rw [WideShapes.add_plain,←htk,List.getElem?_drop,List.getElem?_take] at *;split at hj
      · show World.cell? w _=_;simp only [World.cell?,hg]
        simpa using hj
      · cases hj
    · rw [hdl,hcs];omega
  obtain ⟨W1,hW1⟩:∃W1,W1=w.drew.setRow g cur1:=⟨_,rfl⟩;have hg1:W1.heap[g]? = some (.cells cur1 173 (0,0)):=(by rw [hW1];exact setRow_heap w.drew g cur _ _ _ hg)
  have hs1:cur1.size=cap*2:=by
    rw [hc1];simp only [List.size_toArray,List.length_append,List.length_take,List.length_drop,Array.length_toList,hcs,hxl];omega
  obtain ⟨cur2,hc2⟩:∃cur2,cur2=(cur1.toList.take (i*2) ++ ys ++ cur1.toList.drop (i*2+ys.length)).toArray:=⟨_,rfl⟩
  have hcp2:∀ty dc,(Builtin.copy_ #[28,28] ty #[.slice (some ⟨g,i*2,none⟩) (n+1-i) dc,.slice (some ⟨vb,0,none⟩) 1 vc]).run Tryz.prog W1=.ok (goInt (Nat.min 1 (n+1-i))) (W1.setRow g cur2):=fun ty dc=>by
    rw [hc2];refine run_copy_rowK W1 _ _ ty 173 2 g (i*2) _ dc ⟨vb,0,none⟩ _ vc cur1 173 ys Tryz.underlying28 hsz hg1 ?_ ?_ ?_ h1
    · rw [hy];simp only [Nat.min_def];split <;> omega
    · intro j u hj;rw [WideShapes.add_plain,Nat.zero_add,hW1,cell_setRow_other _ _ _ _ hvb];exact hys j u hj
    · rw [hy,hs1];omega
  have HF:Hid (InsA w base (.slice (some ⟨g,0,none⟩) n cap) n (insL xs ys i) (.returned (.slice (some ⟨g,0,none⟩) (n+1) cap)) (W1.setRow g cur2)):=by
    have hlt:g<w.heap.size:=(Array.getElem?_eq_some_iff.1 hg).1;refine ⟨g,cap,rfl,⟨by rw [insL_len _ _ _ (by omega),hy,hxl];omega,.inr ⟨g,cap,cur2,rfl,hb,setRow_heap W1 g cur1 _ _ _ hg1,hnc,hcm,?_,?_⟩⟩,⟨?_,?_,?_,?_,?_⟩,.inl rfl,?_⟩
    · rw [hc2];simp only [List.size_toArray,List.length_append,List.length_take,List.length_drop,Array.length_toList,hs1,hy];omega
    · rw [hc2,hc1];exact ins_room cur.toList xs ys n i hi (by rw [Array.length_toList,hcs];omega) htk hy
    · rw [hW1];rfl
    · rw [hW1];rfl
    · rw [hW1];rfl
    · rw [hW1];simp
    · intro k hk hne;have:k≠g:=fun e=>hne (by rw [e];rfl);rw [setRow_other _ _ _ _ this,hW1,setRow_other _ _ _ _ this];rfl
    · rw [hW1];simpa using hlt
  have hmx:Tryz.prog.follows .mixedOrders=true:=(by kernel_rfl);have hc63:cap≤9223372036854775807:=(by unfold maxLen at hcm;omega);have hz2:¬((i:Int)=(n:Int)):=(by omega);have hin:i≤n:=(by omega);have htn:((i:Int)+1).toNat=i+1:=(by omega);have hb3:(i:Int)≤(n:Int)+1:=(by omega);have hw1:IntKind.i64.wrap ((i:Int)+1)=(i:Int)+1:=(by rw [IntKind.wrap_i64];omega);have hw2:IntKind.i64.wrap ((n:Int)+1)=(n:Int)+1:=(by rw [IntKind.wrap_i64];omega);have hb1:(0:Int)≤(i:Int)+1:=(by omega);have hb2:¬(cap=i+1):=(by omega);have hb4:¬(cap=i):=(by omega);rw [←hW1] at hcp1;clear hc1 hc2 hg1 hs1 hW1 hys h1 hv hg hcs htk hx1 hcm hxl hdl hsz hi0 hz0 hz1;go_enter Tryz.func182,Tryz.ntmps182;go_wp2_with (simp only [hov]);go_region_law_o (refine step_copy_runI rfl _ _ 28 28 rfl _ _ (by simp [Act.eval,Act.put]) (by simp [Act.eval,Act.put]) (hcp1 _ _ _) ?_);go_wp2_with (at_builtin;refine wpList_copy_runI _ rfl _ _ 28 28 rfl _ _ rfl rfl (hcp2 _ _) ?_);go_ret;exact HF.out
theorem ins_grow (xs ys zs:List Value) (n i:Nat) (hi:i<n) (hx:xs.length=n*2) (hy:ys.length=2) (hz:2*(n+1-i)≤zs.length) (L1:List Value) (hL:L1=xs.take (i*2) ++ zs) :
    (((L1.take (i*2) ++ ys ++ L1.drop (i*2+ys.length)).take ((i+1)*2) ++ xs.drop (i*2) ++ (L1.take (i*2) ++ ys ++ L1.drop (i*2+ys.length)).drop ((i+1)*2+(xs.drop (i*2)).length)).take ((n+1)*2))=insL xs ys i:=by
  have e0:(xs.take (i*2)).length=i*2:=(by rw [List.length_take];omega);have e2:(xs.drop (i*2)).length=n*2-i*2:=(by rw [List.length_drop,hx]);have a0:L1.take (i*2)=xs.take (i*2):=(by rw [hL,List.take_append_of_le_length (by omega),List.take_of_length_le (by omega)]);have e1:(xs.take (i*2) ++ ys).length=(i+1)*2:=(by rw [List.length_append,e0,hy];omega);rw [a0]
  have a1:(xs.take (i*2) ++ ys ++ L1.drop (i*2+ys.length)).take ((i+1)*2)=xs.take (i*2) ++ ys:=by
    rw [List.take_append_of_le_length (by omega),List.take_of_length_le (by omega)]
  rw [a1];unfold insL;rw [List.take_append_of_le_length (by simp only [List.length_append,e0,e2,hy];omega),List.take_of_length_le (by simp only [List.length_append,e0,e2,hy];omega)]
set_option maxHeartbeats 4000000 in
theorem insRw_grow (w:World) (base n i g cap vb vc:Nat) (xs ys:List Value) (cur:Array Value) (hi:i<n) (hbase:base≤w.heap.size) (hg:w.heap[g]? = some (.cells cur 173 (0,0))) (hnc:n≤cap) (hnr:cap<n+1) (hcs:cur.size=cap*2) (htk:cur.toList.take (n*2)=xs) (hx1:∀u ∈ xs,u.oneCell'=true) (hn:n≤1000)
    (hv:vb<w.heap.size) (hy:ys.length=2) (hys:∀j u,ys[j]? = some u→w.cell? ⟨vb,j,none⟩=some u) (h1:∀u ∈ ys,u.oneCell'=true) :
    Calls Tryz.prog 182 #[.slice (some ⟨g,0,none⟩) n cap,.int .i64 i,.slice (some ⟨vb,0,none⟩) 1 vc] w (InsA w base (.slice (some ⟨g,0,none⟩) n cap) n (insL xs ys i)):=by
  obtain ⟨i0,hi0,hz0,hz1,hz2⟩:=info_parts2 infoRw;have hsz:(Tryz.prog.info? 173).map (·.size)=some 2:=(by rw [hi0];simp [hz1]);have hgw:g<w.heap.size:=(Array.getElem?_eq_some_iff.1 hg).1;have hxl:xs.length=n*2:=(by rw [←htk,List.length_take,Array.length_toList];omega);have hdl:(xs.drop (i*2)).length=(n-i)*2:=(by rw [List.length_drop,hxl];omega)
  have hxc:∀j v,xs[j]? = some v→w.cell? ⟨g,j,none⟩=some v:=fun j v hj=>by
    rw [←htk,List.getElem?_take] at hj;split at hj
    · simp only [World.cell?,hg]
      simpa using hj
    · cases hj
  have hold:(Builtin.firstCells i0.size i (.slice (some ⟨g,0,none⟩) i cap)).run Tryz.prog w.drew=.ok (xs.take (i*2)).toArray w.drew:=by
    rw [hz1]
    exact run_firstCells_some w.drew 2 i ⟨g,0,none⟩ i cap (xs.take (i*2)) (by rw [List.length_take];omega) (fun j v hj=>by
      rw [WideShapes.add_plain,Nat.zero_add];rw [List.getElem?_take] at hj;split at hj
      · exact hxc j v hj
      · cases hj)
  have hik:i+(n+1-i)=n+1:=(by omega);have hkk:(n:Int)+1-(i:Int)=((n+1-i:Nat):Int):=(by omega);have hfit:Builtin.nextslicecap (n+1) cap*i0.bytes≤281474976710656:=growslice_fits hnr (by rw [hz2];omega);obtain ⟨G,hG⟩:∃G,G=grownCap w (n+1) cap 173:=⟨_,rfl⟩;have hrz:=fun ty=>Lib.run_append_grow_zeros (P:=Tryz.prog) w 28 3 ty 173 i0 _ .i64 .i64 Tryz.underlying28 Tryz.underlying3 hi0 hz0 (some ⟨g,0,none⟩) i cap (xs.take (i*2)) hold (n+1-i) (by omega) (by omega) (by omega) (by omega) (by rw [hz2];omega) (by rw [hik];exact hfit);rw [hik,←hG,←hkk] at hrz;obtain ⟨ZA,hZA⟩:∃ZA:Array Value,ZA=Builtin.zeroCells (Value.agg #[Value.int IntKind.i64 0,Value.slice none 0 0]).cells (n+1-i) ++ Builtin.zeroCells (Value.agg #[Value.int IntKind.i64 0,Value.slice none 0 0]).cells (G-(n+1)):=⟨_,rfl⟩;have hGn:n+1≤G:=(by rw [hG];exact grownCap_ge w _ _ _);have hGm:G≤maxLen:=(by rw [hG];exact grownCap_le_maxLen w (n+1) cap 173 (by unfold maxLen;omega))
  have hZl:ZA.size=(G-i)*2:=by
    rw [hZA];have e:(Value.agg #[Value.int IntKind.i64 0,Value.slice none 0 0]).cells.size=2:=rfl;simp only [Array.size_append,size_zeroCells,e];omega
  simp only [Array.append_assoc,←hZA] at hrz;obtain ⟨ROW,hROW⟩:∃ROW:Array Value,ROW=(xs.take (i*2)).toArray ++ ZA:=⟨_,rfl⟩;rw [←hROW] at hrz;have hRl:ROW.toList=xs.take (i*2) ++ ZA.toList:=(by rw [hROW];simp)
  have hRs:ROW.size=G*2:=by
    rw [hROW];simp only [Array.size_append,List.size_toArray,List.length_take,hZl];omega
  obtain ⟨W1,hW1⟩:∃W1,W1=w.drew.alloc (.cells ROW 173):=⟨_,rfl⟩;rw [←hW1] at hrz;have hg1:W1.heap[w.heap.size]? = some (.cells ROW 173 (0,0)):=(by rw [hW1];exact heap_alloc_new w.drew _)
  have hO1:∀k j,k<w.heap.size→W1.cell? ⟨k,j,none⟩=w.cell? ⟨k,j,none⟩:=fun k j hk=>by rw [hW1,World.cell?_alloc_past (w:=w.drew) _ k j hk];rfl
  obtain ⟨cur1,hc1⟩:∃cur1,cur1=(ROW.toList.take (i*2) ++ ys ++ ROW.toList.drop (i*2+ys.length)).toArray:=⟨_,rfl⟩
  have hs1:cur1.size=G*2:=by
    rw [hc1];simp only [List.size_toArray,List.length_append,List.length_take,List.length_drop,Array.length_toList,hRs,hy];omega
  have hcp1:∀ty dc,(Builtin.copy_ #[28,28] ty #[.slice (some ⟨w.heap.size,i*2,none⟩) (n+1-i) dc,.slice (some ⟨vb,0,none⟩) 1 vc]).run Tryz.prog W1=.ok (goInt (Nat.min 1 (n+1-i))) (W1.setRow w.heap.size cur1):=fun ty dc=>by
    rw [hc1];refine run_copy_rowK W1 _ _ ty 173 2 w.heap.size (i*2) _ dc ⟨vb,0,none⟩ _ vc ROW 173 ys Tryz.underlying28 hsz hg1 ?_ ?_ ?_ h1
    · rw [hy];simp only [Nat.min_def];split <;> omega
    · intro j u hj;rw [WideShapes.add_plain,Nat.zero_add,hO1 _ _ hv];exact hys j u hj
    · rw [hy,hRs];omega
  obtain ⟨W2,hW2⟩:∃W2,W2=(W1.setRow w.heap.size cur1).drew:=⟨_,rfl⟩;have hg2:W2.heap[w.heap.size]? = some (.cells cur1 173 (0,0)):=(by rw [hW2];exact setRow_heap W1 _ ROW _ _ _ hg1);obtain ⟨cur2,hc2⟩:∃cur2,cur2=(cur1.toList.take ((i+1)*2) ++ xs.drop (i*2) ++ cur1.toList.drop ((i+1)*2+(xs.drop (i*2)).length)).toArray:=⟨_,rfl⟩
  have hcp2:∀ty dc sc,(Builtin.copy_ #[28,28] ty #[.slice (some ⟨w.heap.size,(i+1)*2,none⟩) (n-i) dc,.slice (some ⟨g,i*2,none⟩) (n-i) sc]).run Tryz.prog W2=.ok (goInt (Nat.min (n-i) (n-i))) (W2.setRow w.heap.size cur2):=fun ty dc sc=>by
    rw [hc2];refine run_copy_rowK W2 _ _ ty 173 2 w.heap.size ((i+1)*2) _ dc ⟨g,i*2,none⟩ _ sc cur1 173 (xs.drop (i*2)) Tryz.underlying28 hsz hg2 ?_ ?_ ?_ fun v hv=>hx1 v (List.mem_of_mem_drop hv)
    · rw [hdl];simp only [Nat.min_def];split <;> omega
    · intro j v hj;rw [WideShapes.add_plain,hW2];show World.cell? (W1.setRow w.heap.size cur1) _=_;rw [cell_setRow_other _ _ _ _ (by show g≠w.heap.size;omega),hO1 _ _ hgw];exact hxc _ v (by rwa [List.getElem?_drop] at hj)
    · rw [hdl,hs1];omega
  have HF:Hid (InsA w base (.slice (some ⟨g,0,none⟩) n cap) n (insL xs ys i) (.returned (.slice (some ⟨w.heap.size,0,none⟩) (n+1) G)) (W2.setRow w.heap.size cur2)):=by
    refine ⟨w.heap.size,G,rfl,⟨by rw [insL_len _ _ _ (by omega),hy,hxl];omega,.inr ⟨w.heap.size,G,cur2,rfl,hbase,setRow_heap W2 _ cur1 _ _ _ hg2,hGn,hGm,?_,?_⟩⟩,⟨?_,?_,?_,?_,?_⟩,.inr rfl,?_⟩
    · rw [hc2];simp only [List.size_toArray,List.length_append,List.length_take,List.length_drop,Array.length_toList,hs1,hxl];omega
    · rw [hc2,hc1];exact ins_grow xs ys ZA.toList n i hi hxl hy (by rw [Array.length_toList,hZl];omega) ROW.toList hRl
    · rw [hW2,hW1];rfl
    · rw [hW2,hW1];rfl
    · rw [hW2,hW1];rfl
    · rw [hW2,hW1];simp
    · intro k hk hne;have:k≠w.heap.size:=(by omega);rw [setRow_other _ _ _ _ this,hW2];show (W1.setRow w.heap.size cur1).heap[k]? = _;rw [setRow_other _ _ _ _ this,hW1];exact heap_alloc_old w.drew _ hk
    · rw [hW2,hW1];simp
  have hmx:Tryz.prog.follows .mixedOrders=true:=(by kernel_rfl);have hG63:G≤9223372036854775807:=(by unfold maxLen at hGm;omega);have hz3:(cap:Int)<(n:Int)+1:=(by omega);have hz2:¬((i:Int)=(n:Int)):=(by omega);have hin:i≤n:=(by omega);have htn:((i:Int)+1).toNat=i+1:=(by omega);have hb3:(i:Int)≤(n:Int)+1:=(by omega);have hw1:IntKind.i64.wrap ((i:Int)+1)=(i:Int)+1:=(by rw [IntKind.wrap_i64];omega);have hw2:IntKind.i64.wrap ((n:Int)+1)=(n:Int)+1:=(by rw [IntKind.wrap_i64];omega);have hw3:IntKind.i64.wrap ((n:Int)+1-(i:Int))=(n:Int)+1-(i:Int):=(by rw [IntKind.wrap_i64];omega);have hb1:(0:Int)≤(i:Int)+1:=(by omega);have hGi:¬(G=i):=(by omega);have hGim:¬(G=i+1):=(by omega);have hci:¬(cap=i):=(by omega);obtain ⟨GH,hGH⟩:∃GH,GH=w.heap.size:=⟨_,rfl⟩;rw [←hGH] at hrz hcp1 hcp2 HF hW2;have hD:W2=(W1.setRow GH cur1).drew:=hW2;clear hc1 hc2 hg1 hg2 hs1 hW1 hW2 hys h1 hv hg hcs htk hx1 hxl hdl hsz hi0 hz0 hz1 hO1 hold hxc hfit hik hkk hG hZA hZl hROW hRl hRs hGm;subst hD;clear hGH;go_enter Tryz.func182,Tryz.ntmps182
  go_wp2_with (first
    | (at_builtin;refine Lib.wpList_append_run _ rfl _ _ _ _ rfl _ _ rfl rfl _ _ (hrz _) ?_)
    | (at_builtin;refine wpList_copy_runI _ rfl _ _ 28 28 rfl _ _ rfl rfl (hcp1 _ _) ?_))
  go_region_law_o (refine step_copy_runI rfl _ _ 28 28 rfl _ _ (by simp [Act.eval,Act.put]) (by simp [Act.eval,Act.put]) (hcp2 _ _ _) ?_);go_wp2_with fail;go_ret;exact HF.out
theorem insRw_any (w:World) (base n i vb vc:Nat) (v:Value) (xs ys:List Value) (hown:w.ownsRow base 173 2 v n xs) (hi:i≤n) (hbase:base≤w.heap.size) (hn:n≤1000) (hx1:∀u ∈ xs,u.oneCell'=true)
    (hvb:v.ownBlock≠some vb) {tA:TypeId} {cv:Array Value} (hv:w.heap[vb]? = some (.cells cv tA (0,0))) (hy:ys.length=2) (hys:∀j u,ys[j]? = some u→w.cell? ⟨vb,j,none⟩=some u) (h1:∀u ∈ ys,u.oneCell'=true) :
    Calls Tryz.prog 182 #[v,.int .i64 i,.slice (some ⟨vb,0,none⟩) 1 vc] w (InsA w base v n (insL xs ys i)):=by
  rcases Nat.eq_or_lt_of_le hi with rfl | hlt
  · exact insRw_end w base i vb vc v xs ys hown hbase hn hy hys h1
  · rcases hown.2 with ⟨_,h0⟩ | ⟨g,cap,cur,rfl,hbg,hg,hnc,hcm,hcs,htk⟩
    · omega
    · have hne:vb≠g:=fun e=>hvb (by rw [e];rfl)
      by_cases hroom:n+1≤cap
      · exact insRw_room w base n i g cap vb vc xs ys cur hlt hbg hg hroom hcm hcs htk hx1 hn hne hv hy hys h1
      · exact insRw_grow w base n i g cap vb vc xs ys cur hlt hbase hg hnc (by omega) hcs htk hx1 hn (Array.getElem?_eq_some_iff.1 hv).1 hy hys h1
theorem GrTx.putU {base top k:Nat} {w:World} {v:Value} {T:Nat→Tx} (h:GrTx base top w v k T) (j:Nat) (hj:j<k) :
    ∃g cap,v=.slice (some ⟨g,0,none⟩) k cap∧base≤g∧g<top∧(∀i,w.frozen? ⟨g,i,none⟩=false)∧∃ai ci l h,CTx w g (j*5) (T j) ai ci∧(T j).n≤ci∧(h=0∨base≤l∧h≤top)∧(g<l∨h≤g)∧OwnUC w l h ai ci (T j).n (T j).U∧
      ∀(w1:World) (t:Tx) (a2:Option Addr) (c2 lo hi:Nat),w.heap.size≤w1.heap.size→(∀x,base≤x→x<top→x≠g→(x<l∨h≤x)→w1.heap[x]? = w.heap[x]?)→(∀o,(o<j*5∨j*5+4<o)→w1.cell? ⟨g,o,none⟩=w.cell? ⟨g,o,none⟩)→
        (∀i,w1.frozen? ⟨g,i,none⟩=w.frozen? ⟨g,i,none⟩)→CTx w1 g (j*5) t a2 c2→t.n≤c2→OwnU w1 lo hi a2 t.n t.U→((l≤lo∧hi≤h)∨top≤lo)→OwnTxP w1 (fun x=>(base≤x∧x<top)∨(top≤lo∧lo≤x∧x<hi)) (some ⟨g,0,none⟩) k (upf T j t):=by
  obtain ⟨h0,A,c,l,h,ho,hv,hd,hc⟩:=h;have hown:=ho;obtain ⟨h1,⟨rfl,rfl⟩ | ⟨g,cap,cur,rfl,k1,k2,k3,k4⟩⟩:=ho
  · omega
  have hg:=hv g rfl
  have cc:∀i j v,i<k→j<5→(rcTx (T i) (A i) (c i))[j]? = some v→w.cell? ⟨g,i*5+j,none⟩=some v:=fun i j v hi hj hv=>by
    rw [hown.cellAt (i*5+j) (by omega),rbTx_get T A c k i j hi hj,hv]
  have hC:∀i,i<k→CTx w g (i*5) (T i) (A i) (c i):=fun i hi=>⟨cc i 0 _ hi (by omega) rfl,cc i 1 _ hi (by omega) rfl,cc i 2 _ hi (by omega) rfl,cc i 3 _ hi (by omega) rfl,cc i 4 _ hi (by omega) rfl⟩;obtain ⟨m1,m2,m3,m4⟩:=hc j hj;refine ⟨g,cap,rfl,k1,hg,fun i=>hown.frozenAt _,A j,c j,l j,h j,hC j hj,m3,m2,m1 g rfl,m4,fun w1 t a2 c2 lo hi hz hw hfar hfr hCt hn hU hlo=>?_⟩;refine .inr ⟨g,0,rfl,.inl ⟨k1,hg⟩,by omega,fun i=>(hfr i).trans (hown.frozenAt _),fun i=>if i=j then (if hi≤lo then 0 else lo) else l i,fun i=>if i=j then (if hi≤lo then 0 else hi) else h i,fun i q hi2 hq hne=>?_,fun i hi2=>?_⟩
  · by_cases e1:i=j <;> by_cases e2:q=j <;> simp only [e1,e2,if_true,if_false]
    · omega
    · have d1:=hd j q hj hq (by omega);have d2:=(hc q hq).2.1
      split <;> omega
    · have d1:=hd i j hi2 hj (by omega);have d2:=(hc i hi2).2.1
      split <;> omega
    · exact hd i q hi2 hq hne
  · by_cases e:i=j
    · subst e;simp only [if_true];rw [upf_eq,Nat.zero_add];refine ⟨?_,fun x x1 x2=>?_,a2,c2,hCt,hn,?_⟩
      · have:=m1 g rfl
        split <;> omega
      · split at x2 <;> split at x1 <;> omega
      · split
        · obtain ⟨u0,u1 | ⟨b,off,e9,u1,u2,u3⟩⟩:=hU
          · exact ⟨Nat.zero_le _,.inl u1⟩
          · omega
        · exact hU
    · simp only [e,if_false];rw [upf_ne _ _ e,Nat.zero_add];obtain ⟨n1,n2,n3,n4⟩:=hc i hi2;have dj:=hd i j hi2 hj e;refine ⟨n1 g rfl,fun x x1 x2=>.inl (by omega),A i,c i,?_,n3,OwnU_keepTx n4.toU hz fun x x1 x2 x3=>hw x (by omega) (by omega) ?_ (by omega)⟩
      · obtain ⟨g0,g1,g2,g3,g4⟩:=hC i hi2;have q:∀r,r<5→w1.cell? ⟨g,i*5+r,none⟩=w.cell? ⟨g,i*5+r,none⟩:=fun r hr=>hfar _ (by omega);exact ⟨(q 0 (by omega)).trans g0,(q 1 (by omega)).trans g1,(q 2 (by omega)).trans g2,(q 3 (by omega)).trans g3,(q 4 (by omega)).trans g4⟩
      · have:=n1 g rfl;omega
theorem OwnRwP.ofList {w:World} {P:Nat→Prop} {g:Nat} {zs:List HRw} (hP:P g) (hl:g<w.heap.size) (hf:∀i,w.frozen? ⟨g,i,none⟩=false) (ap:ApRw zs) (hc:∀i x,zs[i]? = some x→CRw w g (i*2) x.t x.A x.c)
    (ct:∀x ∈ zs,(g<x.l∨x.h≤g)∧x.t.n≤x.c∧Own4 w x.l x.h x.A x.t.n x.t.U∧∀y,x.l≤y→y<x.h→P y):OwnRwP w P (some ⟨g,0,none⟩) zs.length (fun i=>(zs.map HRw.t).getD i zRw):=by
  refine .inr ⟨g,0,rfl,hP,hl,hf,fun i=>(zs.getD i ⟨zRw,none,0,0,0⟩).l,fun i=>(zs.getD i ⟨zRw,none,0,0,0⟩).h,fun i j hi hj hne=>?_,fun i hi=>?_⟩
  · simp only [List.getD_eq_getElem?_getD,List.getElem?_eq_getElem hi,List.getElem?_eq_getElem hj,Option.getD_some]
    rcases Nat.lt_trichotomy i j with c | c | c
    · exact List.pairwise_iff_getElem.1 ap i j hi hj c
    · exact absurd c hne
    · exact (List.pairwise_iff_getElem.1 ap j i hj hi c).symm
  · obtain ⟨x,gi⟩:∃x,zs[i]? = some x:=⟨_,List.getElem?_eq_getElem hi⟩;have e2:(zs.map HRw.t).getD i zRw=x.t:=(by simp [List.getD_eq_getElem?_getD,gi]);have e3:zs.getD i ⟨zRw,none,0,0,0⟩=x:=(by simp [List.getD_eq_getElem?_getD,gi]);obtain ⟨m1,m2,m3,m4⟩:=ct x (List.mem_of_getElem? gi);simp only [e2,e3,Nat.zero_add];exact ⟨m1,m4,x.A,x.c,hc i x gi,m2,m3⟩
def skL (f:Bool) (i:Nat) (y:Rw) (rs:List Rw):List Rw:=rs.take i ++ y :: rs.drop (if f then i+1 else i)
def skH (f:Bool) (i:Nat) (y:HRw) (xs:List HRw):List HRw:=xs.take i ++ y :: xs.drop (if f then i+1 else i)
theorem skH_t (f:Bool) (i:Nat) (y:HRw) (xs:List HRw):(skH f i y xs).map HRw.t=skL f i y.t (xs.map HRw.t):=by
  simp [skH,skL,List.map_take,List.map_drop]
theorem skL_len (f:Bool) (i:Nat) (y:Rw) (rs:List Rw) (hi:if f then i<rs.length else i≤rs.length):(skL f i y rs).length=if f then rs.length else rs.length+1:=by
  cases f <;> simp [skL] at hi ⊢ <;> omega
theorem skH_ap {f:Bool} {i:Nat} {y:HRw} {xs:List HRw} (h:ApRw xs) (hy:∀x ∈ xs,x.h≤y.l∨y.h≤x.l):ApRw (skH f i y xs):=by
  unfold ApRw skH;rw [List.pairwise_append,List.pairwise_cons];have hd:∀k,(xs.drop k).Pairwise (fun x y=>x.h≤y.l∨y.h≤x.l):=fun k=>h.sublist (List.drop_sublist _ _);refine ⟨h.sublist (List.take_sublist _ _),⟨fun x hx=>(hy x (List.mem_of_mem_drop hx)).symm,hd _⟩,fun a ha b hb=>?_⟩
  rcases List.mem_cons.1 hb with rfl | hb
  · exact hy a (List.mem_of_mem_take ha)
  · have hk:i≤(if f then i+1 else i):=by split <;> omega
    obtain ⟨p,hp,rfl⟩:=List.getElem_of_mem ha;obtain ⟨r,hr,rfl⟩:=List.getElem_of_mem hb;simp only [List.length_take] at hp;simp only [List.length_drop] at hr;rw [List.getElem_take,List.getElem_drop];exact List.pairwise_iff_getElem.1 h p _ (by omega) (by omega) (by omega)
theorem hbRw_take:∀(xs:List HRw) (i:Nat),hbRw (xs.take i)=(hbRw xs).take (i*2)
  | [],i=>by simp [hbRw]
  | x :: xs,0=>by simp [hbRw]
  | x :: xs,i+1=>by
    rw [List.take_succ_cons,show (i+1)*2=i*2+1+1 by omega];simp only [hbRw,rcRw,List.cons_append,List.nil_append,List.take_succ_cons,hbRw_take xs i]
theorem hbRw_drop:∀(xs:List HRw) (i:Nat),hbRw (xs.drop i)=(hbRw xs).drop (i*2)
  | [],i=>by simp [hbRw]
  | x :: xs,0=>by simp [hbRw]
  | x :: xs,i+1=>by
    rw [List.drop_succ_cons,show (i+1)*2=i*2+1+1 by omega];simp only [hbRw,rcRw,List.cons_append,List.nil_append,List.drop_succ_cons,hbRw_drop xs i]
theorem hbRw_ins (xs:List HRw) (y:HRw) (i:Nat):hbRw (skH false i y xs)=insL (hbRw xs) (rcRw y.t y.A y.c) i:=by
  unfold skH insL;rw [hbRw_app,hbRw_take];simp only [hbRw,Bool.false_eq_true,if_false,hbRw_drop,List.append_assoc]
theorem hbRw_oneS:∀xs,∀u ∈ hbRw xs,u.oneCell'=true
  | [],u,hu=>by simp [hbRw] at hu
  | x :: xs,u,hu=>by
    simp only [hbRw,List.mem_append] at hu
    rcases hu with hu | hu
    · exact rcRw_one _ _ _ u hu
    · exact hbRw_oneS xs u hu
theorem skH_get {i:Nat} {y:HRw} {xs:List HRw} (hi:i<xs.length) (k:Nat):(skH true i y xs)[k]? = if k=i then some y else xs[k]?:=by
  have e:(xs.take i).length=i:=(by rw [List.length_take];omega);unfold skH;simp only [if_true]
  rcases Nat.lt_trichotomy k i with h | h | h
  · rw [List.getElem?_append_left (by omega),List.getElem?_take,if_pos h,if_neg (by omega)]
  · subst h;rw [List.getElem?_append_right (by omega),e,Nat.sub_self,if_pos rfl];rfl
  · rw [List.getElem?_append_right (by omega),e,if_neg (by omega),show k-i=(k-i-1)+1 by omega,List.getElem?_cons_succ,List.getElem?_drop]
    congr 1
    omega
theorem skL_skL {i:Nat} {y z:Rw} {rs:List Rw} (hi:i≤rs.length):skL true i y (skL false i z rs)=skL false i y rs:=by
  have e:(rs.take i).length=i:=(by rw [List.length_take];omega);unfold skL;simp only [if_true,Bool.false_eq_true,if_false];rw [List.take_append_of_le_length (by omega),List.take_of_length_le (by omega),show i+1=(rs.take i).length+1 by omega,List.drop_append];simp
theorem own4_keepX {w u:World} {lo hi n:Nat} {A:Option Addr} {U:Nat→Vr} (h:Own4 w lo hi A n U) (hs:w.heap.size≤u.heap.size) (hk:∀x,lo≤x→x<hi→u.heap[x]? = w.heap[x]?):Own4 u lo hi A n U:=by
  obtain ⟨h0,h1 | ⟨b,off,e,h2,h3,h4⟩⟩:=h
  · exact ⟨Nat.le_trans h0 hs,.inl h1⟩
  · have hb:=hk b h2 h3;exact ⟨Nat.le_trans h0 hs,.inr ⟨b,off,e,h2,h3,fun i hi=>(h4.1 i hi).block hb,fun i=>(World.frozen?_of_block (w:=w) (a:=⟨b,i,none⟩) hb).trans (h4.2 i)⟩⟩
theorem skH_mem {f:Bool} {i:Nat} {y x:HRw} {xs:List HRw} (h:x ∈ skH f i y xs):x=y∨x ∈ xs:=by
  unfold skH at h
  rcases List.mem_append.1 h with h | h
  · exact .inr (List.mem_of_mem_take h)
  · rcases List.mem_cons.1 h with h | h
    · exact .inl h
    · exact .inr (List.mem_of_mem_drop h)
theorem skH_len0 {i:Nat} {y:HRw} {xs:List HRw} (h:i≤xs.length):(skH false i y xs).length=xs.length+1:=by
  simp [skH];omega
theorem skH_at0 {i:Nat} {y:HRw} {xs:List HRw} (h:i≤xs.length):(skH false i y xs)[i]? = some y:=by
  have e:(xs.take i).length=i:=(by rw [List.length_take];omega);unfold skH;rw [List.getElem?_append_right (by omega),e,Nat.sub_self];rfl
theorem rows_set {W:World} {P:Nat→Prop} {g i lo hi m ci:Nat} {ai:Option Addr} {S:Nat→Vr} {key:Int} {xs:List HRw} {x0:HRw} (hx0:xs[i]? = some x0) (hk:x0.t.key=key) (hHD:∀k x,xs[k]? = some x→CRw W g (k*2) x.t x.A x.c) (hAX:ApRw xs)
    (hct:∀x ∈ xs,(g<x.l∨x.h≤g)∧x.t.n≤x.c∧Own4 W x.l x.h x.A x.t.n x.t.U∧∀y,x.l≤y→y<x.h→P y) (hap:∀x ∈ xs,x.h≤lo∨hi≤x.l) (hch:Own4 W lo hi ai m S) (hmc:m≤ci) (hgl:g<lo∨hi≤g) (hPl:∀y,lo≤y→y<hi→P y) (hPg:P g) (hg:g<W.heap.size) (hf:∀i,W.frozen? ⟨g,i,none⟩=false) :
    OwnRwP (W.setCell ⟨g,i*2+1,none⟩ (.slice ai m ci)) P (some ⟨g,0,none⟩) (skL true i ⟨key,m,S⟩ (xs.map HRw.t)).length (fun x=>(skL true i ⟨key,m,S⟩ (xs.map HRw.t)).getD x zRw):=by
  have hil:i<xs.length:=(List.getElem?_eq_some_iff.1 hx0).1;have hw:Writes g (g+1) W (W.setCell ⟨g,i*2+1,none⟩ (.slice ai m ci)):=Writes.setCell (Writes.refl _ _ _) (p:=⟨g,_,none⟩) (Nat.le_refl _) (Nat.lt_succ_self _) _;have hz:(W.setCell ⟨g,i*2+1,none⟩ (.slice ai m ci)).heap.size=W.heap.size:=(by simp [World.setCell]);have e:skL true i ⟨key,m,S⟩ (xs.map HRw.t)=(skH true i ⟨⟨key,m,S⟩,ai,ci,lo,hi⟩ xs).map HRw.t:=(skH_t true i (⟨⟨key,m,S⟩,ai,ci,lo,hi⟩:HRw) xs).symm;rw [e,List.length_map];refine OwnRwP.ofList hPg (by omega) (fun k=>by rw [World.frozen?_setCell];exact hf k) (skH_ap hAX fun x hx=>hap x hx) (fun k x hx=>?_) (fun x hx=>?_)
  · rw [skH_get hil] at hx
    by_cases c:k=i
    · subst c;rw [if_pos rfl] at hx;injection hx with hx;subst hx;obtain ⟨y0,y1⟩:=hHD k x0 hx0;exact ⟨(setO (by omega)).trans (by rw [y0,hk]),World.cell?_setCell_same _ _ _ y1⟩
    · rw [if_neg c] at hx;obtain ⟨y0,y1⟩:=hHD k x hx;exact ⟨(setO (by omega)).trans y0,(setO (by omega)).trans y1⟩
  · obtain ⟨k,hk2,rfl⟩:=List.getElem_of_mem hx;have gk:=skH_get (y:=⟨⟨key,m,S⟩,ai,ci,lo,hi⟩) hil k;rw [List.getElem?_eq_getElem hk2] at gk
    by_cases c:k=i
    · rw [if_pos c] at gk;injection gk with gk;rw [gk];exact ⟨hgl,hmc,hch.writes hw (by omega),hPl⟩
    · rw [if_neg c] at gk;obtain ⟨m1,m2,m3,m4⟩:=hct _ (List.mem_of_getElem? gk.symm);exact ⟨m1,m2,m3.writes hw (by omega),m4⟩
end Go.Proofs.YtjdodbiphijjgaaGreat
