/-
  stamp: a moment's parts.
-/
import Derived.Test.YtfampefflkkckaaDoorStF
namespace Go.Proofs.YtfampefflkkckaaDoor
open Go.RowKit Go
set_option linter.unusedVariables false
set_option maxRecDepth 100000
def Tm.row (t : Tm) : Array Value := #[.int .i64 (t.y : Int), .int .i64 (t.mo.toNat : Int), .int .i64 (t.d.toNat : Int), .int .i64 (t.h.toNat : Int), .int .i64 (t.mi.toNat : Int), .int .i64 (t.s.toNat : Int)]
end Go.Proofs.YtfampefflkkckaaDoor
