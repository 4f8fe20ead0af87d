/-
  What the statements' own helpers do: copies of bytes, whether bytes are the same.
-/
import Derived.Test.YtcmhacecnahfoaaOwn
import Derived.Outline
import Derived.WalkLawsBesides
import Derived.WalkSpells
namespace Go.Proofs.Ytcmhacecnahfoaa
open Go.RowKit Go
set_option linter.unusedVariables false

end Go.Proofs.Ytcmhacecnahfoaa
