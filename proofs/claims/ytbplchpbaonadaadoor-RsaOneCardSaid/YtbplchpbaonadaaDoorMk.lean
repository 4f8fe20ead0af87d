/-
  mont: the helpers of the statements: number, twin, below.
-/
import Derived.Test.YtbplchpbaonadaaDoorMj
import Derived.Test.YtbplchpbaonadaaDoorOd
namespace Go.Proofs.YtbplchpbaonadaaDoor
open Go.RowKit Go
set_option linter.unusedVariables false
set_option linter.unusedSimpArgs false
set_option maxRecDepth 100000
end Go.Proofs.YtbplchpbaonadaaDoor
