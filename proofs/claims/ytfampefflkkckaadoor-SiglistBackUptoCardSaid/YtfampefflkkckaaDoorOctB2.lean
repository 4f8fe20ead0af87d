/-
  octet.Cut (for seats that do not have all of octet).
-/
import Derived.Test.YtfampefflkkckaaDoorOctB1
import Derived.Test.YtfampefflkkckaaDoorCpy
import Derived.Test.YtfampefflkkckaaDoorRef
namespace Go.Proofs.YtfampefflkkckaaDoor
open Go.RowKit Go
set_option linter.unusedVariables false
set_option maxRecDepth 100000
/-- What Cut answers of bytes that are there. -/
def FreshCut (w : World) (bs : List UInt8) (e : Ending) (w' : World) : Prop :=
  ∃ A n c, e = .returned (.tuple #[.slice A n c, .bool true]) ∧ OwnB w' w.heap.size A n c bs ∧ Below w.heap.size w w'
end Go.Proofs.YtfampefflkkckaaDoor
