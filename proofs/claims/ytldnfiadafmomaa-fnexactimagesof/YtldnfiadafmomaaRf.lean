/- Records: what a record's fault is; RecFault of both sides. -/
import Derived.Test.YtldnfiadafmomaaFault
namespace Go.Proofs.Ytldnfiadafmomaa
open Go.RowKit Go.Deep
set_option linter.unusedVariables false
set_option maxRecDepth 20000

def txb (k t : Int) : Bool := if k = 6 then decide (t = 0) else inB t 1 999
def rng (k t key old nw bk : Int) : Bool := inB k 1 6 && txb k t && inB key 0 31 && inB old 0 9999 && inB nw 0 9999 && inB bk 0 1000
def tnk (k : Int) : Bool := (k == 2) || (k == 5)
def frm (k key : Int) (hd : Bool) (old : Int) (hs : Bool) (nw bk : Int) : Bool := (tnk k || ((key == 0) && !hd && !hs)) && (hd || (old == 0)) && (hs || (nw == 0)) && ((k == 5) == (bk != 0))
/-- The fault of a record, or 0. -/
def rf (k t key : Int) (hd : Bool) (old : Int) (hs : Bool) (nw bk : Int) : Int := if rng k t key old nw bk = true then (if frm k key hd old hs nw bk = true then 0 else 1) else 3
end Go.Proofs.Ytldnfiadafmomaa
