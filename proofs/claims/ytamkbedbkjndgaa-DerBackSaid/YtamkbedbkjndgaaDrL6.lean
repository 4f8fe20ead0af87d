/-
  der: the statement on plain numbers.
-/
import Derived.Test.YtamkbedbkjndgaaDrWk
import Derived.Test.YtamkbedbkjndgaaDrX
namespace Go.Proofs.Ytamkbedbkjndgaa
open Go.RowKit Go
set_option linter.unusedVariables false
set_option maxRecDepth 100000
theorem drop_cons1 {bs : List UInt8} {j : Nat} {d : UInt8} (h : bs[j]? = some d) : bs.drop j = d :: bs.drop (j + 1) := by
  obtain ⟨hj, rfl⟩ := List.getElem?_eq_some_iff.1 h
  exact List.drop_eq_getElem_cons hj
theorem trimZ_zeros (k : Nat) (bs : List UInt8) : trimZ (List.replicate k 0 ++ bs) = trimZ bs := by
  induction k with
  | zero => rfl
  | succ k ih =>
    rw [List.replicate_succ, List.cons_append, trimZ_cons, if_pos (by decide)]
    exact ih
theorem putI_zeros (k : Nat) (bs : List UInt8) : putI (List.replicate k 0 ++ bs) = putI bs := by
  unfold putI; rw [trimZ_zeros]
theorem trimZ_head : ∀ (bs : List UInt8) (d : UInt8) (r : List UInt8), trimZ bs = d :: r → d.toNat ≠ 0
  | [], d, r, h => by cases h
  | x :: t, d, r, h => by
    rw [trimZ_cons] at h
    split at h
    · exact trimZ_head t d r h
    · cases h; assumption
theorem trimZ_self {d : UInt8} {r : List UInt8} (h : d.toNat ≠ 0) : trimZ (d :: r) = d :: r := by
  rw [trimZ_cons, if_neg h]
/-- What is put is a number's body again: what it says, and how long it is. -/
theorem putI_case (bs : List UInt8) : ∃ p0 P', putI bs = p0 :: P' ∧ p0.toNat < 128 ∧ intQ (putI bs) = some (trimZ bs) ∧
    ((trimZ bs = [] ∧ P'.length = 0) ∨ ∃ d r, trimZ bs = d :: r ∧ ((128 ≤ d.toNat ∧ P'.length = r.length + 1) ∨ (d.toNat < 128 ∧ P'.length = r.length))) := by
  unfold putI
  cases h : trimZ bs with
  | nil => exact ⟨0, [], rfl, by decide, rfl, .inl ⟨rfl, rfl⟩⟩
  | cons d r =>
    have hd := trimZ_head bs d r h
    simp only
    by_cases h8 : 128 ≤ d.toNat
    · rw [if_pos h8]
      refine ⟨0, d :: r, rfl, by decide, ?_, .inr ⟨d, r, rfl, .inl ⟨h8, rfl⟩⟩⟩
      simp only [intQ]
      rw [if_neg (by rintro (h | ⟨_, h⟩); exact absurd h (by decide); omega), trimZ_cons, if_pos (by decide), trimZ_self hd]
    · rw [if_neg h8]
      refine ⟨d, r, rfl, by omega, ?_, .inr ⟨d, r, rfl, .inr ⟨by omega, rfl⟩⟩⟩
      cases r with
      | nil => simp only [intQ]; rw [if_neg h8, trimZ_self hd]
      | cons x r => simp only [intQ]; rw [if_neg (by omega), trimZ_self hd]
end Go.Proofs.Ytamkbedbkjndgaa
