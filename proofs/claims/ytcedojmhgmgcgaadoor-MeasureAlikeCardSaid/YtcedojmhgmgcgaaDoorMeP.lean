/-
  measure: the statement on images whose hashed bytes are the same: the row.
-/
import Derived.Test.YtcedojmhgmgcgaaDoorMeN
import Derived.Test.YtcedojmhgmgcgaaDoorMeO
namespace Go.Proofs.YtcedojmhgmgcgaaDoor
open Go.RowKit Go
set_option linter.unusedVariables false
set_option linter.unusedSimpArgs false
set_option maxRecDepth 100000
attribute [local go_sem] Oper.semAt_some
theorem alike_row (A0 : Option Addr) (n0 c0 : Nat) (b0 : List UInt8) (A1 : Option Addr) (n1 c1 : Nat) (b1 : List UInt8) (w : World) (h0 : IsBs w A0 n0 c0 b0) (h1 : IsBs w A1 n1 c1 b1) (hT : Sizes w) :
    Calls Tryd.prog 6 #[.slice A0 n0 c0, .slice A1 n1 c1] w fun e w' => e = .returned (.bool true) ∧ Below w.heap.size w w' := by
  have hm0 := h0.max
  have hm1 := h1.max
  unfold maxLen at hm0 hm1
  by_cases hb : 8192 < n0 ∨ 8192 < n1
  · exact alike_big A0 n0 c0 A1 n1 c1 w hT hb
  · by_cases hg : ∃ im0 im1, parseQ b0 = .inr im0 ∧ parseQ b1 = .inr im1
    · obtain ⟨im0, im1, p0, p1⟩ := hg
      exact alike_ok A0 n0 c0 b0 A1 n1 c1 b1 w h0.rb h1.rb hT h0.le (by omega) h1.le (by omega) (by omega) (by omega) im0 im1 p0 p1
    · exact alike_small A0 n0 c0 b0 A1 n1 c1 b1 w h0.rb h1.rb hT h0.le (by omega) h1.le (by omega) (by omega) (by omega) hg
end Go.Proofs.YtcedojmhgmgcgaaDoor
