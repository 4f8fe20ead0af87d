/-
  stamp: the moments that bodies tell.
-/
import Derived.Test.YtfampefflkkckaaDoorStD
namespace Go.Proofs.YtfampefflkkckaaDoor
open Go.RowKit Go
set_option linter.unusedVariables false
set_option maxRecDepth 100000
def utcO (bs : List UInt8) : Option Tm := if bs.length = 13 ∧ bs[12]? = some 90 then numsO (yearU (pairAt bs 0)) (pairAt bs 2) (pairAt bs 4) (pairAt bs 6) (pairAt bs 8) (pairAt bs 10) else none
def genO (bs : List UInt8) : Option Tm := if bs.length = 15 ∧ bs[14]? = some 90 then numsO (yearG (pairAt bs 0) (pairAt bs 2)) (pairAt bs 4) (pairAt bs 6) (pairAt bs 8) (pairAt bs 10) (pairAt bs 12) else none
theorem yearU_le (p q : UInt8) : -1 ≤ yearU (pairI p q) ∧ yearU (pairI p q) ≤ 65535 := by
  have := pairI_le p q
  unfold yearU
  repeat' split
  all_goals omega
theorem yearG_le (p q p' q' : UInt8) : -1 ≤ yearG (pairI p q) (pairI p' q') ∧ yearG (pairI p q) (pairI p' q') ≤ 65535 := by
  have h1 := pairI_le p q
  have h2 := pairI_le p' q'
  unfold yearG
  split
  all_goals omega
end Go.Proofs.YtfampefflkkckaaDoor
