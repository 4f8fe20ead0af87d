/-
  What the statements' own helpers do: copies of bytes, whether bytes are the same.
-/
import Derived.Test.YtbplchpbaonadaaDoorOwn
import Derived.Outline
import Derived.WalkLawsBesides
import Derived.WalkSpells
namespace Go.Proofs.YtbplchpbaonadaaDoor
open Go.RowKit Go
set_option linter.unusedVariables false
set_option maxRecDepth 100000

end Go.Proofs.YtbplchpbaonadaaDoor
