import Derived.Test.YtjdodbiphijjgaaGreatRows
namespace Go.Proofs.YtjdodbiphijjgaaGreat
set_option maxRecDepth 100000
theorem clMay:Tryz.prog.mayEnter=true:=by kernel_rfl
theorem clLift:(Rows.fnExactPutKeyRow.lifted == Tryz.prog.liftsFinal)=true:=by kernel_rfl
theorem clMake:(Tryz.prog.make == some Rows.fnExactPutKeyRow.make)=true:=by kernel_rfl
end Go.Proofs.YtjdodbiphijjgaaGreat
