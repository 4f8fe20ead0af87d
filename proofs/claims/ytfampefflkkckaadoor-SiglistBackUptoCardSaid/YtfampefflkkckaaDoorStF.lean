/-
  stamp: a moment's bytes.
-/
import Derived.Test.YtfampefflkkckaaDoorStE
import Derived.Test.YtfampefflkkckaaDoorAppZ
import Derived.Test.YtfampefflkkckaaDoorOctC1
namespace Go.Proofs.YtfampefflkkckaaDoor
open Go.RowKit Go
set_option linter.unusedVariables false
set_option maxRecDepth 100000
/-- A moment's sixteen bytes. -/
def tmB (t : Tm) : List UInt8 := leB t.y 2 ++ [t.mo, t.d, t.h, t.mi, t.s] ++ List.replicate 9 0
end Go.Proofs.YtfampefflkkckaaDoor
