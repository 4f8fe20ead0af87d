/-
  vname: Global and Security (made by genVn.py).
-/
import Derived.Test.YtjcbmgpmlekamaaSg
import Derived.Test.YtjcbmgpmlekamaaUp
import Derived.Test.YtjcbmgpmlekamaaRef
import Derived.Test.YtjcbmgpmlekamaaRin
import Derived.MapKept
import Derived.Outline
import Derived.WalkLawsBesides
namespace Go.Proofs.Ytjcbmgpmlekamaa
open Go.RowKit Go
set_option linter.unusedVariables false
set_option linter.unusedSimpArgs false
set_option maxRecDepth 100000
def gG : Array Value := #[.int .u8 97, .int .u8 223, .int .u8 228, .int .u8 139, .int .u8 202, .int .u8 147, .int .u8 210, .int .u8 17, .int .u8 170, .int .u8 13, .int .u8 0, .int .u8 224, .int .u8 152, .int .u8 3, .int .u8 43, .int .u8 140]
def gS : Array Value := #[.int .u8 203, .int .u8 178, .int .u8 25, .int .u8 215, .int .u8 58, .int .u8 61, .int .u8 150, .int .u8 69, .int .u8 163, .int .u8 188, .int .u8 218, .int .u8 208, .int .u8 14, .int .u8 103, .int .u8 101, .int .u8 111]
theorem global_any (w : World) : Calls Try.prog 17 #[] w fun e w' => e = .returned (.agg gG) ∧ Below w.heap.size w w' := by
  go_enter Try.func17, Try.ntmps17
  go_wp2
  refine bodyPost_ret (results_c Try.results17 _ (LV.agg (has_new _ _) Try.underlying23 rfl (by kernel_rfl))) rfl ?_
  exact ⟨rfl, kp_alloc (Below.refl _ _) _⟩
theorem security_any (w : World) : Calls Try.prog 18 #[] w fun e w' => e = .returned (.agg gS) ∧ Below w.heap.size w w' := by
  go_enter Try.func18, Try.ntmps18
  go_wp2
  refine bodyPost_ret (results_c Try.results18 _ (LV.agg (has_new _ _) Try.underlying23 rfl (by kernel_rfl))) rfl ?_
  exact ⟨rfl, kp_alloc (Below.refl _ _) _⟩
theorem dglobal_any (w : World) : Calls Try.prog 8 #[] w fun e w' => e = .returned (.agg gG) ∧ Below w.heap.size w w' := by
  go_enter Try.func8, Try.ntmps8
  go_wp2
  refine bodyPost_ret (results_c Try.results8 _ (LV.agg (has_new _ _) Try.underlying23 rfl (by kernel_rfl))) rfl ?_
  exact ⟨rfl, kp_alloc (Below.refl _ _) _⟩
theorem dsecurity_any (w : World) : Calls Try.prog 9 #[] w fun e w' => e = .returned (.agg gS) ∧ Below w.heap.size w w' := by
  go_enter Try.func9, Try.ntmps9
  go_wp2
  refine bodyPost_ret (results_c Try.results9 _ (LV.agg (has_new _ _) Try.underlying23 rfl (by kernel_rfl))) rfl ?_
  exact ⟨rfl, kp_alloc (Below.refl _ _) _⟩
end Go.Proofs.Ytjcbmgpmlekamaa
