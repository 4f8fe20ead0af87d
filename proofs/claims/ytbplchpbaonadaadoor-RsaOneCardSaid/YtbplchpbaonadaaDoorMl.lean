/-
  mont: the statement MontSmall.
-/
import Derived.Test.YtbplchpbaonadaaDoorMk
namespace Go.Proofs.YtbplchpbaonadaaDoor
open Go.RowKit Go
set_option linter.unusedVariables false
set_option linter.unusedSimpArgs false
set_option maxRecDepth 100000
theorem under_num {v m : Nat} (h : v < m) (hm : m < 4294967296 ^ 256) : underB (num v) m = true := by
  unfold underB
  rw [num_right, val_num, decide_eq_true h, decide_eq_true (Nat.lt_trans h hm)]
  rfl
theorem num_rightB {v : Nat} (h : v < 4294967296 ^ 256) : rightB (num v) = true := by rw [num_right]; exact decide_eq_true h
theorem small_big {v : Nat} (h : v ≤ 18446744073709551616) : v < 4294967296 ^ 256 := Nat.lt_of_le_of_lt h (by decide)
theorem may_small {m : Nat} (h : m ≤ 65535) : mayB (num m) = (decide (m % 2 = 1) && decide (3 ≤ m)) := by
  rcases Nat.eq_zero_or_pos m with h0 | h0
  · subst h0; rw [num_zero]; decide
  · rw [num_small h0 (by omega)]
    unfold mayB rightB
    rw [val_one]
    simp only [List.length_cons, List.length_nil, List.getD_cons_zero]
    by_cases h1 : m % 2 = 1
    · have : ¬ m % 2 = 0 := by omega
      have h2 : ¬ m = 0 := by omega
      simp [h1, h2]
    · have : m % 2 = 0 := by omega
      simp [this]
end Go.Proofs.YtbplchpbaonadaaDoor
