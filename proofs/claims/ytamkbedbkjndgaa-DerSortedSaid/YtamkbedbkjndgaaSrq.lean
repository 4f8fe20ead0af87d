/-
  Plain: texts in their order; what a row of texts in order is.
-/
import Derived.Test.YtamkbedbkjndgaaSrt
import Derived.Test.YtamkbedbkjndgaaCmp
import Derived.Test.YtamkbedbkjndgaaFam
namespace Go.Proofs.Ytamkbedbkjndgaa
open Go.RowKit Go
set_option linter.unusedVariables false
set_option linter.unusedSimpArgs false
theorem cmp_lt : ∀ xs ys : List UInt8, Lib.compareBytes xs ys < 0 ↔ xs < ys
  | [], [] => by simp [Lib.compareBytes]
  | [], _ :: _ => by simp [Lib.compareBytes]
  | _ :: _, [] => by simp [Lib.compareBytes]
  | a :: x, b :: y => by
    have ih := cmp_lt x y
    rw [List.cons_lt_cons_iff]
    simp only [Lib.compareBytes]
    by_cases h : a < b
    · simp [h]
    · by_cases h2 : b < a
      · have hne : (a == b) = false := by
          simp only [beq_eq_false_iff_ne]
          rintro rfl
          exact h h2
        have hne2 : a ≠ b := by
          rintro rfl
          exact h h2
        simp [h, h2, hne, hne2]
      · have heq : a = b := by
          apply UInt8.toNat_inj.1
          have h3 : ¬ a.toNat < b.toNat := fun e => h (UInt8.lt_iff_toNat_lt.2 e)
          have h4 : ¬ b.toNat < a.toNat := fun e => h2 (UInt8.lt_iff_toNat_lt.2 e)
          omega
        subst heq
        simp [h, ih]
/-- One text is not behind another. -/
def leR (x y : Own1) : Prop := x.2.2.2 ≤ y.2.2.2
theorem leR_tr : ∀ x y z, leR x y → leR y z → leR x z := fun _ _ _ h k => List.le_trans h k
theorem leR_rf : ∀ x, leR x x := fun x => List.not_lt.1 (List.lt_irrefl _)
theorem leR_of_not {x y : Own1} (h : ¬ Lib.compareBytes y.2.2.2 x.2.2.2 < 0) : leR x y := List.not_lt.1 (fun e => h ((cmp_lt _ _).2 e))
theorem leR_of_lt {x y : Own1} (h : Lib.compareBytes x.2.2.2 y.2.2.2 < 0) : leR x y := by
  have h1 := (cmp_lt _ _).1 h
  rcases List.le_total x.2.2.2 y.2.2.2 with h2 | h2
  · exact h2
  · exact absurd h1 (List.not_lt.2 h2)
def txt (x : Own1) : List UInt8 := x.2.2.2
/-- Texts in their order. -/
def sortQ (l : List (List UInt8)) : List (List UInt8) := l.mergeSort fun a b => decide (a ≤ b)
theorem sortQ_uniq {l l' : List (List UInt8)} (hp : l'.Perm l) (hs : l'.Pairwise (· ≤ ·)) : l' = sortQ l := by
  refine List.Perm.eq_of_pairwise (le := fun a b : List UInt8 => a ≤ b) (fun a b _ _ h1 h2 => List.le_antisymm h1 h2) hs ?_ (hp.trans (List.mergeSort_perm _ _).symm)
  have := List.pairwise_mergeSort (le := fun a b : List UInt8 => decide (a ≤ b)) (fun a b c h1 h2 => by simp only [decide_eq_true_eq] at *; exact List.le_trans h1 h2) (fun a b => by simp only [Bool.or_eq_true, decide_eq_true_eq]; exact List.le_total a b) l
  exact this.imp (fun h => by simpa using h)
theorem sortQ_of {ds ds' : List Own1} {n : Nat} (hn : ds'.length = n) (h : ds'.Perm ds) (hs : Srt leR ds' 0 n) : ds'.map txt = sortQ (ds.map txt) := by
  refine sortQ_uniq (h.map txt) ?_
  rw [List.pairwise_map, List.pairwise_iff_getElem]
  intro i j hi hj hij
  exact hs i j _ _ (Nat.zero_le _) hij (by omega) (List.getElem?_eq_getElem hi) (List.getElem?_eq_getElem hj)
theorem sortQ_perm (l : List (List UInt8)) : (sortQ l).Perm l := List.mergeSort_perm _ _
theorem sortQ_pair (l : List (List UInt8)) : (sortQ l).Pairwise (· ≤ ·) := by
  have := List.pairwise_mergeSort (le := fun a b : List UInt8 => decide (a ≤ b)) (fun a b c h1 h2 => by simp only [decide_eq_true_eq] at *; exact List.le_trans h1 h2) (fun a b => by simp only [Bool.or_eq_true, decide_eq_true_eq]; exact List.le_total a b) l
  exact this.imp (fun h => by simpa using h)
theorem sortQ_of_perm {l l' : List (List UInt8)} (h : l'.Perm l) : sortQ l' = sortQ l := sortQ_uniq ((sortQ_perm l').trans h) (sortQ_pair l')
end Go.Proofs.Ytamkbedbkjndgaa
