/-
  stamp: pairs of digits, told one after the other by a closure.
-/
import Derived.Test.YtfampefflkkckaaDoorStA
namespace Go.Proofs.YtfampefflkkckaaDoor
open Go.RowKit Go
set_option linter.unusedVariables false
set_option maxRecDepth 100000
def digit (p : UInt8) : Bool := decide (48 ≤ p.toNat ∧ p.toNat ≤ 57)
/-- The number of two digits, or -1. -/
def pairI (p q : UInt8) : Int := if digit p && digit q then 10 * ((p.toNat : Int) - 48) + ((q.toNat : Int) - 48) else -1
theorem pairI_le (p q : UInt8) : -1 ≤ pairI p q ∧ pairI p q ≤ 99 := by
  unfold pairI digit
  split
  · rename_i h
    simp at h
    omega
  · omega
def pairAt (bs : List UInt8) (k : Nat) : Int := pairI (bs.getD k 0) (bs.getD (k + 1) 0)
theorem getD_of {bs : List UInt8} {k : Nat} {q : UInt8} (h : bs[k]? = some q) : bs.getD k 0 = q := by rw [List.getD_eq_getElem?_getD, h]; rfl
theorem pairI_yes {p q : UInt8} {z : Int} (h : 48 ≤ p.toNat ∧ p.toNat ≤ 57 ∧ 48 ≤ q.toNat ∧ q.toNat ≤ 57) (hz : z = ((p.toNat : Int) - 48) * 10 + ((q.toNat : Int) - 48)) : z = pairI p q := by
  unfold pairI digit
  rw [if_pos (by simp; omega)]
  omega
theorem pairI_no {p q : UInt8} (h : ¬ (48 ≤ p.toNat ∧ p.toNat ≤ 57 ∧ 48 ≤ q.toNat ∧ q.toNat ≤ 57)) : -1 = pairI p q := by
  unfold pairI digit
  rw [if_neg (by simp; omega)]
theorem grown_set1 (w : World) (m g j : Nat) (u : Value) : w.grownBy ((w.drewN m).setCell ⟨g, j, none⟩ u) (some g) :=
  ⟨rfl, rfl, rfl, by simp [World.setCell, World.drewN], fun k _ hk => Below.heap_setCell (w.drewN m) ⟨g, j, none⟩ u k (fun e => hk (by rw [e]))⟩
/-- Where the closure stands. -/
structure Next (w : World) (P0 P1 : Nat) (A : Option Addr) (n c : Nat) (bs : List UInt8) (k : Nat) : Prop where
  lt : P0 < P1
  size : P1 < w.heap.size
  len : bs.length = n
  reads : Bs w P0 A bs
  text : w.cell? ⟨P0, 0, none⟩ = some (.slice A n c)
  at_ : w.cell? ⟨P1, 0, none⟩ = some (.int .i64 (k : Int))
  free : w.frozen? ⟨P1, 0, none⟩ = false
theorem Next.grown {w w' : World} {P0 P1 : Nat} {A : Option Addr} {n c : Nat} {bs : List UInt8} {k : Nat} (h : Next w P0 P1 A n c bs k) {row : Option Nat} (hg : w.grownBy w' row) (hr : ∀ g, row = some g → P1 < g) : Next w' P0 P1 A n c bs k := by
  have h0 := h.size
  have h1 := h.lt
  refine ⟨h.lt, Nat.lt_of_lt_of_le h.size hg.size, h.len, h.reads.grown hg (by omega) (fun g hh => by have := hr g hh; omega), ?_, ?_, ?_⟩
  · rw [World.cell?_of_block (w := w) (hg.block P0 (by omega) (fun e => by have := hr _ e.symm; omega))]; exact h.text
  · rw [World.cell?_of_block (w := w) (hg.block P1 (by omega) (fun e => by have := hr _ e.symm; omega))]; exact h.at_
  · rw [World.frozen?_of_block (w := w) (hg.block P1 (by omega) (fun e => by have := hr _ e.symm; omega))]; exact h.free
theorem Next.step {w : World} {P0 P1 : Nat} {A : Option Addr} {n c : Nat} {bs : List UInt8} {k m k2 : Nat} (h : Next w P0 P1 A n c bs k) :
    Next ((w.drewN m).setCell ⟨P1, 0, none⟩ (.int .i64 (k2 : Int))) P0 P1 A n c bs k2 := by
  have h0 := h.size
  have h1 := h.lt
  have hg := grown_set1 w m P1 0 (.int .i64 (k2 : Int))
  refine ⟨h.lt, Nat.lt_of_lt_of_le h.size hg.size, h.len, h.reads.grown hg (by omega) (fun g hh => by injection hh with hh; omega), ?_, ?_, ?_⟩
  · rw [World.cell?_of_block (w := w) (hg.block P0 (by omega) (fun e => by injection e with e; omega))]; exact h.text
  · exact World.cell?_setCell_same (w.drewN m) ⟨P1, 0, none⟩ _ h.at_
  · have := World.frozen?_setCell (w.drewN m) ⟨P1, 0, none⟩ ⟨P1, 0, none⟩ (.int .i64 (k2 : Int))
    rw [this]; exact h.free
end Go.Proofs.YtfampefflkkckaaDoor
