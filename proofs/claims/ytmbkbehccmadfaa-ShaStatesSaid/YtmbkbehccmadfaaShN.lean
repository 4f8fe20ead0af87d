/-
  sha: New.
-/
import Derived.Test.YtmbkbehccmadfaaShI
import Derived.Great.BuildSlice
namespace Go.Proofs.Ytmbkbehccmadfaa
open Go.RowKit Go
set_option linter.unusedVariables false
set_option maxRecDepth 100000
def zeroState : List Value := List.replicate 8 (.int .u32 0) ++ (List.replicate 64 (.int .u8 0) ++ [.int .i64 0, .int .u64 0, .bool false])
theorem new_any (w : World) : Calls Try.prog 17 #[] w fun e w' => e = .returned (.pointer (some ⟨w.heap.size, 0, none⟩)) ∧ w' = w.alloc (.cells zeroState.toArray 39) := by
  go_enter Try.func17, Try.ntmps17
  go_wp2_with (refine wpList_buildTo rfl _ _ rfl _ rfl zeroState.toArray (by kernel_rfl) ?_)
  go_ret
  exact ⟨rfl, rfl⟩
end Go.Proofs.Ytmbkbehccmadfaa
