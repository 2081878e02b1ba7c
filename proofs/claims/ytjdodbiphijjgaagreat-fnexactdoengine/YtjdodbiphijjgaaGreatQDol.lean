import Derived.Test.YtjdodbiphijjgaaGreatQDolw
import Derived.Test.YtjdodbiphijjgaaGreatQDod
import Derived.Test.YtjdodbiphijjgaaGreatQDoi
namespace Go.Proofs.YtjdodbiphijjgaaGreat
open Go.ChangeShapes Go.WideShapes Go.ChangeAt Go.RowKit Go.Deep Go.Joins
set_option maxRecDepth 20000
theorem openAct {H:Type} {enc:TypeId × Value→H} {W:World} {r:Reach} {b0:Nat} {v:Value} {d:DataW H} {p:List MemPlace}
    (hv:Value.okWide Tryz.prog W r b0 43 v) (h:DataW.Trod enc Tryz.prog W 0 (fun _=>true) true 43 v d p) :
    ∃(x y z o:Int),v=.agg #[.int .i64 x,.int .i64 y,.int .i64 z,.int .i64 o]:=by
  obtain ⟨c0,c1,c2,c3,y0,y1,y2,y3,m,rfl,rfl,rfl,h0,h1,h2,h3⟩:=open_agg4 Tryz.underlying43 (by kernel_rfl) cellsAct hv h;obtain ⟨x0,e0,_,_⟩:=DataW.trod_int Tryz.underlying2 h0;obtain ⟨x1,e1,_,_⟩:=DataW.trod_int Tryz.underlying2 h1;obtain ⟨x2,e2,_,_⟩:=DataW.trod_int Tryz.underlying2 h2;obtain ⟨x3,e3,_,_⟩:=DataW.trod_int Tryz.underlying2 h3;simp at e0 e1 e2 e3;subst e0 e1 e2 e3;exact ⟨x0,x1,x2,x3,rfl⟩
theorem doEngineLaw (E:En) (a a':Option Addr) (cap cap':Nat) (r:Dk) (w:World) (hn:E.p≤9223372036854775807) (hL:∀i,i<E.p→(E.T i).n≤9223372036854775807) (hm:E.q≤9223372036854775807) (hM:∀i,i<E.q→(E.R i).n≤9223372036854775807) (HA0:EngAt w a a' E) :
    Calls Tryz.prog 5 #[.agg #[.int .i64 E.nx,.int .i64 E.ck,.slice a E.p cap,.slice a' E.q cap'],.agg #[.int .i64 r.k,.int .i64 r.t,.int .i64 r.y,.int .i64 r.o]] w fun e w'=>e=.returned (.bool true)∧Below w.heap.size w w':=
  doEngineLaw_small E a a' cap cap' r w hn hL hm hM HA0 (doC E r) (drC E r) (drV E r) (drL E r) (drE E r) (dr_small E r) (dr_len E r) (fun hs a cap a' cap' w h=>specDo_any E r a cap a' cap' w hs h) (fun hs a cap a' cap' w h=>implDo_any E r a cap a' cap' w hs h)
end Go.Proofs.YtjdodbiphijjgaaGreat
