/-
  pe: the document's Same, at no image.
-/
import Derived.Test.YtjfpiidofbjdhaaDoorPeP
import Derived.Test.YtjfpiidofbjdhaaDoorPeQ
namespace Go.Proofs.YtjfpiidofbjdhaaDoor
open Go.RowKit Go
set_option linter.unusedVariables false
set_option maxRecDepth 100000
set_option maxHeartbeats 4000000 in
theorem same_zero (w : World) : Calls Tryd.prog 14 #[.agg imZero, .agg imZero] w fun e w' => e = .returned (.bool true) ∧ Below w.heap.size w w' := by
  unfold imZero
  go_enter Tryd.func14, Tryd.ntmps14
  go_upto_region 1 with (fail)
  refine wp_nm fun W0 hW0 => ?_
  have k0 : W0.heap[w.heap.size]? = some (.cells #[.bool false, .int .i64 0, .int .i64 0, .int .u32 0, .slice none 0 0, .int .u32 0, .int .u32 0, .slice none 0 0] 28) := by rw [← hW0]; exact has_alloc (has_new w _) _
  have k1 : W0.heap[w.heap.size + 1]? = some (.cells #[.bool false, .int .i64 0, .int .i64 0, .int .u32 0, .slice none 0 0, .int .u32 0, .int .u32 0, .slice none 0 0] 28) := by rw [← hW0]; exact has_new' _ _ _ (by simp)
  have hb0 : Below w.heap.size w W0 := by rw [← hW0]; exact kp_alloc (kp_alloc (Below.refl _ _) _) _
  have HB := Lib.hid hb0
  clear hW0 hb0
  obtain ⟨x0, x1, x2, x3, x4, x5, x6, x7⟩ := cells_8 k0
  obtain ⟨y0, y1, y2, y3, y4, y5, y6, y7⟩ := cells_8 k1
  have K := Lib.hid (And.intro k0 (And.intro k1 HB.out))
  clear k0 k1 HB
  go_wp2_with (fail)
  go_loopw [5] (fun vi wl => vi = .int .i64 0 ∧ Hid (wl.heap[w.heap.size]? = some (.cells #[.bool false, .int .i64 0, .int .i64 0, .int .u32 0, .slice none 0 0, .int .u32 0, .int .u32 0, .slice none 0 0] 28) ∧ wl.heap[w.heap.size + 1]? = some (.cells #[.bool false, .int .i64 0, .int .i64 0, .int .u32 0, .slice none 0 0, .int .u32 0, .int .u32 0, .slice none 0 0] 28) ∧ Below w.heap.size w wl)) (fun _ _ => 0)
  case atStart => exact ⟨rfl, K⟩
  case round =>
    obtain ⟨rfl, HK⟩ := hrel
    clear K x0 x1 x2 x3 x4 x5 x6 x7 y0 y1 y2 y3 y4 y5 y6 y7
    obtain ⟨x0, x1, x2, x3, x4, x5, x6, x7⟩ := cells_8 HK.out.1
    go_wp2_with (fail)
    go_loopw [6] (fun vi wl => vi = .int .i64 0 ∧ Hid (wl.heap[w.heap.size]? = some (.cells #[.bool false, .int .i64 0, .int .i64 0, .int .u32 0, .slice none 0 0, .int .u32 0, .int .u32 0, .slice none 0 0] 28) ∧ wl.heap[w.heap.size + 1]? = some (.cells #[.bool false, .int .i64 0, .int .i64 0, .int .u32 0, .slice none 0 0, .int .u32 0, .int .u32 0, .slice none 0 0] 28) ∧ Below w.heap.size w wl)) (fun _ _ => 0)
    case atStart => exact ⟨rfl, HK⟩
    case round =>
      obtain ⟨rfl, HK2⟩ := hrel
      clear HK x0 x1 x2 x3 x4 x5 x6 x7
      obtain ⟨x0, x1, x2, x3, x4, x5, x6, x7⟩ := cells_8 HK2.out.1
      go_wp2_with (fail)
      go_ret
      exact ⟨rfl, HK2.out.2.2⟩
end Go.Proofs.YtjfpiidofbjdhaaDoor
