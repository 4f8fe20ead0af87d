/-
  What the statements' own helpers do: copies of bytes, whether bytes are the same.
-/
import Derived.Test.YtpopohfbcedpbaaOwn
import Derived.Outline
import Derived.WalkLawsBesides
import Derived.WalkSpells
namespace Go.Proofs.Ytpopohfbcedpbaa
open Go.RowKit Go
set_option linter.unusedVariables false

end Go.Proofs.Ytpopohfbcedpbaa
