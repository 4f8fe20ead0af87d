/-
  descr: the statement on what is told.
-/
import Derived.Test.YthmmipcfabijdaaDoorDeR
import Derived.Deep.MidRow
import Derived.LoopTactic
namespace Go.Proofs.YthmmipcfabijdaaDoor
open Go.RowKit Go
set_option linter.unusedVariables false
set_option maxRecDepth 100000
attribute [local go_sem ↓] Go.wp_at_zero Go.wp_at_succ
theorem over_step (bs : List UInt8) (k : Nat) (x : UInt8) (hk : k < bs.length) : (List.replicate k x ++ bs.drop k).set k x = List.replicate (k + 1) x ++ bs.drop (k + 1) := by
  rw [List.set_append_right _ _ (by simp), List.length_replicate, Nat.sub_self, List.drop_eq_getElem_cons hk]
  show List.replicate k x ++ (x :: bs.drop (k + 1)) = _
  rw [List.replicate_succ', List.append_assoc]
  rfl
theorem range16 {w : World} {g : Nat} {gc : Array Value} {t : TypeId} {fr : Nat × Nat} (h : w.heap[g]? = some (.cells gc t fr)) : w.rangeAt g 0 gc.toList := fun j v hv => by
  have h9 := Lib.cell_of_heap h (0 + j)
  rw [h9]
  simpa using hv
theorem far_of {w w' : World} {b b' : Nat} {A A' : Option Addr} {n n' c c' : Nat} {xs ys : List UInt8} (h : OwnB w b A n c xs) (h' : OwnB w' b' A' n' c' ys) (hlt : w.heap.size ≤ b') : blk A = none ∨ blk A ≠ blk A' := by
  rcases hA : blk A with _ | g
  · exact .inl rfl
  · refine .inr (fun e => ?_)
    have h1 := (h.blk_lt hA).2
    have h2 := (h'.blk_lt e.symm).1
    omega
theorem far_symm {A A' : Option Addr} (h : blk A = none ∨ blk A ≠ blk A') : blk A' = none ∨ blk A' ≠ blk A := by
  rcases hA : blk A' with _ | g
  · exact .inl rfl
  · refine .inr (fun e => ?_)
    rcases h with h | h
    · rw [h] at e; cases e
    · exact h (by rw [hA, e])
end Go.Proofs.YthmmipcfabijdaaDoor
