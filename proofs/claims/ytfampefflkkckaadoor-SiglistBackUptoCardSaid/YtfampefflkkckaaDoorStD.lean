/-
  stamp: the moment of digits and a Z.
-/
import Derived.Test.YtfampefflkkckaaDoorStC
namespace Go.Proofs.YtfampefflkkckaaDoor
open Go.RowKit Go
set_option linter.unusedVariables false
set_option maxRecDepth 100000
/-- The moment of a year and five numbers. -/
def tmOf (yv z1 z2 z3 z4 z5 : Int) : Tm := ⟨yv.toNat, UInt8.ofNat z1.toNat, UInt8.ofNat z2.toNat, UInt8.ofNat z3.toNat, UInt8.ofNat z4.toNat, UInt8.ofNat z5.toNat⟩
def numsO (yv z1 z2 z3 z4 z5 : Int) : Option Tm := if 0 ≤ yv ∧ 0 ≤ z1 ∧ 0 ≤ z2 ∧ 0 ≤ z3 ∧ 0 ≤ z4 ∧ 0 ≤ z5 then rightO (tmOf yv z1 z2 z3 z4 z5) else none
theorem byte_back (z : Int) (h0 : 0 ≤ z) (h1 : z ≤ 99) : ((UInt8.ofNat z.toNat).toNat : Int) = z := by
  rw [UInt8.toNat_ofNat']
  omega
theorem tmOf_parts {yv z1 z2 z3 z4 z5 : Int} (h0 : 0 ≤ yv) (h1 : 0 ≤ z1 ∧ z1 ≤ 99) (h2 : 0 ≤ z2 ∧ z2 ≤ 99) (h3 : 0 ≤ z3 ∧ z3 ≤ 99) (h4 : 0 ≤ z4 ∧ z4 ≤ 99) (h5 : 0 ≤ z5 ∧ z5 ≤ 99) :
    partsV (tmOf yv z1 z2 z3 z4 z5) = .agg #[.int .i64 yv, .int .i64 z1, .int .i64 z2, .int .i64 z3, .int .i64 z4, .int .i64 z5] := by
  unfold partsV tmOf
  simp only [byte_back _ h1.1 h1.2, byte_back _ h2.1 h2.2, byte_back _ h3.1 h3.2, byte_back _ h4.1 h4.2, byte_back _ h5.1 h5.2, Int.toNat_of_nonneg h0]
def rowP (yv : Int) (z : Nat → Int) (i : Nat) : Array Value := #[.int .i64 yv, .int .i64 (if 1 < i then z 1 else 0), .int .i64 (if 2 < i then z 2 else 0), .int .i64 (if 3 < i then z 3 else 0), .int .i64 (if 4 < i then z 4 else 0), .int .i64 (if 5 < i then z 5 else 0)]
theorem rowP_set (yv : Int) (z : Nat → Int) (i : Nat) (h1 : 1 ≤ i) (h2 : i < 6) : (rowP yv z i).setIfInBounds i (.int .i64 (z i)) = rowP yv z (i + 1) := by
  have : i = 1 ∨ i = 2 ∨ i = 3 ∨ i = 4 ∨ i = 5 := by omega
  rcases this with rfl | rfl | rfl | rfl | rfl <;> rfl
theorem grown_set0 (w : World) (g j : Nat) (u : Value) : w.grownBy (w.setCell ⟨g, j, none⟩ u) (some g) :=
  ⟨rfl, rfl, rfl, by simp [World.setCell], fun k _ hk => Below.heap_setCell w ⟨g, j, none⟩ u k (fun e => hk (by rw [e]))⟩
end Go.Proofs.YtfampefflkkckaaDoor
