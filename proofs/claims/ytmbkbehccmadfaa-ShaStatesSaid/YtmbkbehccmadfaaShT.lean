/-
  sha: the sum of abc, reckoned.
-/
import Derived.Test.YtmbkbehccmadfaaShI
namespace Go.Proofs.Ytmbkbehccmadfaa
set_option linter.unusedVariables false
set_option maxRecDepth 100000
def H0v : V8 := ⟨1779033703, 3144134277, 1013904242, 2773480762, 1359893119, 2600822924, 528734635, 1541459225⟩
theorem H0_eq : H0 = H0v.list := by kernel_rfl
def abcB : List Nat := [97, 98, 99, 128] ++ (List.replicate 52 0 ++ [0, 0, 0, 0, 0, 0, 0, 24])
theorem sch_ok : (schW abcB).getD 63 0 = 313650667 := by kernel_rfl
theorem abc_sum : (blockW H0v K0 abcB).list = [3128432319, 2399260650, 1094795486, 1571693091, 2953011619, 2518121116, 3021012833, 4060091821] := by kernel_rfl
end Go.Proofs.Ytmbkbehccmadfaa
