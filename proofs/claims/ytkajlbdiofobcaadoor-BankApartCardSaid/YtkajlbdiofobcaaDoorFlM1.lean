/-
  flash: Program with no loss of power ahead (for seats that have no law of stage 7).
-/
import Derived.Test.YtkajlbdiofobcaaDoorFlJ
namespace Go.Proofs.YtkajlbdiofobcaaDoor
open Go.RowKit Go
set_option linter.unusedVariables false
set_option linter.unusedSimpArgs false
/-- Program with no loss of power ahead. -/
theorem progQ_calm (xs : List UInt8) : ∀ (k : Nat) (S : FS), S.left = 0 → (progQ xs k S).2 = 0 ∧ (progQ xs k S).1.left = 0 ∧ (progQ xs k S).1.off = S.off ∧ (progQ xs k S).1.wr = S.wr + xs.length := by
  induction xs with
  | nil => intro k S h; exact ⟨rfl, h, rfl, rfl⟩
  | cons x xs ih =>
    intro k S h
    have e : S.step k x = { S with left := S.left - 1, wr := S.wr + 1, bs := S.bs.set k (S.bs.getD k 0 &&& x) } := by unfold FS.step; rw [if_neg (by omega)]
    unfold progQ
    rw [if_neg (by omega)]
    obtain ⟨h1, h2, h3, h4⟩ := ih (k + 1) (S.step k x) (by rw [e]; show S.left - 1 = 0; omega)
    rw [e] at h1 h2 h3 h4 ⊢
    refine ⟨h1, h2, h3, ?_⟩
    rw [h4, List.length_cons]
    show S.wr + 1 + xs.length = _
    omega
end Go.Proofs.YtkajlbdiofobcaaDoor
