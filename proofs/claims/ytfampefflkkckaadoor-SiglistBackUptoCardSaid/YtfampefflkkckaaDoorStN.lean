/-
  stamp: blocks of six cells; what is told is right.
-/
import Derived.Test.YtfampefflkkckaaDoorStM
namespace Go.Proofs.YtfampefflkkckaaDoor
open Go.RowKit Go
set_option linter.unusedVariables false
set_option maxRecDepth 100000
section
variable {w : World} {g : Nat} {a0 a1 a2 a3 a4 a5 : Value}
theorem cells6 (hk : w.heap[g]? = some (.cells #[a0, a1, a2, a3, a4, a5] 71)) :
    w.cell? ⟨g, 0, none⟩ = some a0 ∧ w.cell? ⟨g, 1, none⟩ = some a1 ∧ w.cell? ⟨g, 2, none⟩ = some a2 ∧ w.cell? ⟨g, 3, none⟩ = some a3 ∧ w.cell? ⟨g, 4, none⟩ = some a4 ∧ w.cell? ⟨g, 5, none⟩ = some a5 :=
  ⟨Lib.cell_of_heap hk 0, Lib.cell_of_heap hk 1, Lib.cell_of_heap hk 2, Lib.cell_of_heap hk 3, Lib.cell_of_heap hk 4, Lib.cell_of_heap hk 5⟩
theorem free6 (hk : w.heap[g]? = some (.cells #[a0, a1, a2, a3, a4, a5] 71)) :
    w.frozen? ⟨g, 0, none⟩ = false ∧ w.frozen? ⟨g, 1, none⟩ = false ∧ w.frozen? ⟨g, 2, none⟩ = false ∧ w.frozen? ⟨g, 3, none⟩ = false ∧ w.frozen? ⟨g, 4, none⟩ = false ∧ w.frozen? ⟨g, 5, none⟩ = false :=
  ⟨Lib.frozen_of_heap hk 0, Lib.frozen_of_heap hk 1, Lib.frozen_of_heap hk 2, Lib.frozen_of_heap hk 3, Lib.frozen_of_heap hk 4, Lib.frozen_of_heap hk 5⟩
variable {v0 v1 v2 v3 v4 v5 : Value}
theorem set6 (hk : w.heap[g]? = some (.cells #[a0, a1, a2, a3, a4, a5] 71)) :
    ((((((w.setCell ⟨g, 0, none⟩ v0).setCell ⟨g, 1, none⟩ v1).setCell ⟨g, 2, none⟩ v2).setCell ⟨g, 3, none⟩ v3).setCell ⟨g, 4, none⟩ v4).setCell ⟨g, 5, none⟩ v5).heap[g]? = some (.cells #[v0, v1, v2, v3, v4, v5] 71) :=
  heap_set_here _ _ _ _ _ _ _ (heap_set_here _ _ _ _ _ _ _ (heap_set_here _ _ _ _ _ _ _ (heap_set_here _ _ _ _ _ _ _ (heap_set_here _ _ _ _ _ _ _ (heap_set_here _ _ _ _ _ _ _ hk)))))
theorem below6 {B : Nat} {u : World} (h : Below B u w) (hg : B ≤ g) :
    Below B u ((((((w.setCell ⟨g, 0, none⟩ v0).setCell ⟨g, 1, none⟩ v1).setCell ⟨g, 2, none⟩ v2).setCell ⟨g, 3, none⟩ v3).setCell ⟨g, 4, none⟩ v4).setCell ⟨g, 5, none⟩ v5) :=
  (((((h.setCell hg _).setCell hg _).setCell hg _).setCell hg _).setCell hg _).setCell hg _
end
theorem calls_named {P : Program} {f : FuncId} {args : Array Value} {w : World} {Q : Ending → World → Prop} (h : ∀ W, w = W → Calls P f args W Q) : Calls P f args w Q := h w rfl
theorem heap_lt {w : World} {g : Nat} {o : Obj} (h : w.heap[g]? = some o) : g < w.heap.size := (Array.getElem?_eq_some_iff.1 h).1
theorem rightO_some {t u : Tm} (h : rightO t = some u) : rightB u = true ∧ t = u := by
  unfold rightO at h
  split at h
  · rename_i hr
    injection h with h
    subst h
    exact ⟨hr, rfl⟩
  · cases h
theorem utcO_some {bs : List UInt8} {u : Tm} (h : utcO bs = some u) : rightB u = true ∧ 1950 ≤ u.y ∧ u.y < 2050 := by
  unfold utcO at h
  split at h
  · unfold numsO at h
    split at h
    · rename_i hn
      obtain ⟨h1, h2⟩ := rightO_some h
      refine ⟨h1, ?_⟩
      have hy : u.y = (yearU (pairAt bs 0)).toNat := by rw [← h2]; rfl
      have hp := pairI_le (bs.getD 0 0) (bs.getD (0 + 1) 0)
      have hp : -1 ≤ pairAt bs 0 ∧ pairAt bs 0 ≤ 99 := hp
      have h0 := hn.1
      rw [hy]
      unfold yearU at h0 ⊢
      split at h0
      · omega
      · rw [if_neg (by omega)]
        split <;> omega
    · cases h
  · cases h
theorem right_year {u : Tm} (h : rightB u = true) : 1900 ≤ u.y ∧ u.y ≤ 9999 := by
  have := of_decide_eq_true h
  exact ⟨this.1, this.2.1⟩
theorem genO_some {bs : List UInt8} {u : Tm} (h : genO bs = some u) : rightB u = true := by
  unfold genO at h
  split at h
  · unfold numsO at h
    split at h
    · exact (rightO_some h).1
    · cases h
  · cases h
theorem right_zero : rightB Tm.zero = false := by decide
end Go.Proofs.YtfampefflkkckaaDoor
