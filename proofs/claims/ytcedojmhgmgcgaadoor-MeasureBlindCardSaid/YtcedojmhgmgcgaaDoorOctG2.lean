/-
  The document's answers of numbers and pieces (for seats that do not have all of octet).
-/
import Derived.Test.YtcedojmhgmgcgaaDoorOctG1
import Derived.Test.YtcedojmhgmgcgaaDoorOctB2
import Derived.Test.YtcedojmhgmgcgaaDoorApp1
namespace Go.Proofs.YtcedojmhgmgcgaaDoor
open Go.RowKit Go
set_option linter.unusedVariables false
set_option maxRecDepth 100000
theorem inB_yes {n : Nat} {a k : Int} (h : inB n a k = true) : ∃ a' k' : Nat, a = a' ∧ k = k' ∧ a' + k' ≤ n := by
  unfold inB at h
  simp only [decide_eq_true_eq] at h
  exact ⟨a.toNat, k.toNat, by omega, by omega, by omega⟩
theorem rev_step (bs : List UInt8) (j n : Nat) (q : UInt8) (hl : bs.length = n) (hj : j < n) (hq : bs[n - 1 - j]? = some q) :
    (bs.drop (n - j)).reverse ++ [q] = (bs.drop (n - (j + 1))).reverse := by
  have hL : bs[n - 1 - j]'(by omega) = q := by rw [List.getElem?_eq_getElem (by omega)] at hq; injection hq
  rw [show n - (j + 1) = n - 1 - j by omega, List.drop_eq_getElem_cons (l := bs) (i := n - 1 - j) (by omega), hL, List.reverse_cons, show n - 1 - j + 1 = n - j by omega]
theorem be_step (l : List UInt8) (i : Nat) (q : UInt8) (hq : l[i]? = some q) : leN (l.take (i + 1)).reverse = leN (l.take i).reverse * 256 + q.toNat := by
  have hi : i < l.length := by
    rcases Nat.lt_or_ge i l.length with h | h
    · exact h
    · rw [List.getElem?_eq_none h] at hq; cases hq
  have hL : l[i]'hi = q := by rw [List.getElem?_eq_getElem hi] at hq; injection hq
  rw [List.take_succ_eq_append_getElem hi, hL, List.reverse_append, List.reverse_singleton, List.singleton_append, leN]
  omega
theorem be_lt (l : List UInt8) (i : Nat) (hi : i ≤ 7) : leN (l.take i).reverse < 72057594037927936 := by
  have h1 := leN_lt (l.take i).reverse
  have h2 : 256 ^ (l.take i).reverse.length ≤ 256 ^ 7 := Nat.pow_le_pow_right (by omega) (by rw [List.length_reverse, List.length_take]; omega)
  have h3 : (256 : Nat) ^ 7 = 72057594037927936 := by decide
  omega
end Go.Proofs.YtcedojmhgmgcgaaDoor
