/-
  nat: the law's own: works.
-/
import Derived.Test.YtbplchpbaonadaaDoorNr
import Derived.Test.YtbplchpbaonadaaDoorNo
namespace Go.Proofs.YtbplchpbaonadaaDoor
open Go.RowKit Go
set_option linter.unusedVariables false
set_option linter.unusedSimpArgs false
set_option maxRecDepth 100000
theorem NumS.cells {w : World} {base n : Nat} {A : Option Addr} {l : List Nat} (h : NumS w base A n l) (hn : l ≠ []) : ∃ g, A = some ⟨g, 0, none⟩ ∧ base ≤ g ∧ g < w.heap.size ∧ ∀ (j x : Nat), l[j]? = some x → w.cell? ⟨g, j, none⟩ = some (.int .u32 (x : Int)) := by
  obtain ⟨h1, h2, h3⟩ := h
  rcases h3 with ⟨_, e⟩ | ⟨g, L, rfl, h4, h5, h6⟩
  · exact absurd e hn
  · refine ⟨g, rfl, h4, h5.lt, fun j x hx => ?_⟩
    have hj : j < l.length := by
      rcases Nat.lt_or_ge j l.length with h7 | h7
      · exact h7
      · rw [List.getElem?_eq_none h7] at hx; cases hx
    have hnL : n ≤ L.length := by rw [← h1, ← h6, List.length_take]; omega
    rw [h5.cell (show j < L.length by omega)]
    rw [← h6, List.getElem?_take, if_pos (by omega), getD_at (show j < L.length by omega)] at hx
    injection hx with hx
    rw [hx]
theorem NumS.len {w : World} {base n : Nat} {A : Option Addr} {l : List Nat} (h : NumS w base A n l) : l.length = n := h.1
theorem calls_w {P : Program} {f : FuncId} {args : Array Value} {w : World} {R : Ending → World → Prop} (h : ∀ W, w = W → Calls P f args W R) : Calls P f args w R := h w rfl
theorem num_two : num (beV [0, 1, 0, 0, 0, 2]) = [2, 1] := num_val [2, 1] (by intro x hx; simp at hx; omega) (.inr (by decide))
theorem div_val : divQ [0, 0, 1] [3] = (([1431655765, 1431655765], [1]), 0) := by
  have h1 : rightB [0, 0, 1] = true := by decide
  have h2 : rightB [3] = true := by decide
  unfold divQ
  rw [h1, h2, show ([3].length == 0) = false from rfl]
  have e1 : val [0, 0, 1] / val [3] = val [1431655765, 1431655765] := by decide
  have e2 : val [0, 0, 1] % val [3] = val [1] := by decide
  rw [e1, e2, num_val _ (by intro x hx; simp at hx; omega) (.inr (by decide)), num_val _ (by intro x hx; simp at hx; omega) (.inr (by decide))]
  rfl
theorem bits_two : bitsN (val [2, 1]) = 33 := bits_of _ 32 (by decide) (by decide)
theorem beN_two : beN (val [2, 1]) 6 = [0, 1, 0, 0, 0, 2] := beN_same [0, 1, 0, 0, 0, 2]
end Go.Proofs.YtbplchpbaonadaaDoor
